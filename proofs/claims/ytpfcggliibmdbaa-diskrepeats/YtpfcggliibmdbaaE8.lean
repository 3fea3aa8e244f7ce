/- DiskRepeats, walked. -/
import Derived.Test.YtpfcggliibmdbaaE5
import Derived.Test.YtpfcggliibmdbaaE6
namespace Go.Proofs.Ytpfcggliibmdbaa
open Go.RowKit
set_option linter.unusedVariables false
theorem WD.up {B n c g pb pc rb rc m M M' : Nat} {ps : List Value} {w : World} (h : WD B n c g pb pc rb rc m M ps w) (hM : M ≤ M') : WD B n c g pb pc rb rc m M' ps w := by
  obtain ⟨qv, qs, rs, r, wn, f, h1, h2, h3, h4, h5⟩ := h.ex
  have := h.mM
  exact ⟨⟨qv, qs, rs, r, wn, f, h1, by omega, by omega, by omega, h5⟩, h.plat, h.bytes, h.ne, h.lg, h.lp, h.lr, by omega, h.hn, h.hc⟩
theorem Ints.same {w w' : World} {v : Value} {l : List Int} (h : Ints w v l) (k : Same w w') : Ints w' v l := by
  rcases h with h | ⟨a, cap, e, hc⟩
  · exact Or.inl h
  · exact Or.inr ⟨a, cap, e, fun j hj => Kept.cell k (fun h => h) (hc j hj)⟩
theorem mayB_none {ms : List Int} (h : ms ≠ []) : mayB 0 0 ms = false := by
  match ms, h with
  | z :: t, _ =>
    unfold mayB
    rw [if_pos (by omega)]
set_option maxHeartbeats 4000000 in
set_option maxRecDepth 100000 in
theorem rep_no (n c : Int) (v2 v3 v4 : Value) (w : World) (h : ¬ (JSize n ∧ 1 ≤ c ∧ c ≤ 4096)) :
    Calls Try.prog 10 #[.int .i64 n, .int .i64 c, v2, v3, v4] w fun e w' => e = .returned (.bool true) ∧ Same w w' := by
  have HN := hidden (fun w => d_newNo n c w h)
  clear h
  go_enter Try.func10, Try.ntmps10
  go_wp2_with (first
    | (go_at_call 11; refine (d_lives _).mono ?_; rintro e w1 ⟨rfl, k1⟩)
    | (go_at_call 12; refine (HN.out _).mono ?_; rintro e w2 ⟨rfl, rfl⟩))
  go_returns
  exact ⟨rfl, k1⟩
set_option maxHeartbeats 8000000 in
set_option maxRecDepth 100000 in
theorem rep_yes (n c : Nat) (v2 v3 v4 : Value) (nl : Nat) (fl : Nat → Int × Int × Nat) (ks ms : List Int) (w : World) (hn : JSize n) (hc1 : 1 ≤ c) (hc2 : c ≤ 4096) (hl : DOps w v2 nl fl) (hnl : nl * 56 ≤ 140737488351232)
    (hks : Ints w v3 ks) (hkl : ks.length * 8 ≤ 140737488351232) (hkb : ∀ a k c, v3 = .slice (some a) k c → 0 < k → a.block < w.heap.size) (hms : Ints w v4 ms) (hml : ms.length * 8 ≤ 140737488351232) :
    Calls Try.prog 10 #[.int .i64 n, .int .i64 c, v2, v3, v4] w fun e w' => e = .returned (.bool true) ∧ Same w w' := by
  have hn4 : n ≤ 4096 := by have := hn.2.1; omega
  have hn5 : 512 ≤ n := by have := hn.1; omega
  have HN := hidden (fun w => d_new n c w hn hc1 hc2)
  have hle : n * c ≤ 4096 * 4096 := Nat.mul_le_mul hn4 hc2
  have hp0 : (n : Int) * (c : Int) = ((n * c : Nat) : Int) := (Int.natCast_mul _ _).symm
  have hw : IntKind.i64.wrap ((n : Int) * (c : Int)) = ((n * c : Nat) : Int) := by rw [hp0, IntKind.wrap_i64]; omega
  obtain ⟨la, lc, rfl, hlc⟩ := hl
  obtain ⟨ka, kc, rfl⟩ := hks.form
  obtain ⟨ma, mc, rfl⟩ := hms.form
  have HLC := hidden hlc
  have HKS : Hid (∀ w', Same w w' → Ints w' (.slice ka ks.length kc) ks) := fun w' k => hks.same k
  have HMS : Hid (∀ w', Same w w' → Ints w' (.slice ma ms.length mc) ms) := fun w' k => hms.same k
  have HKB := hidden hkb
  clear hn hlc hks hms hkb hp0
  have tk : True := trivial
  go_enter Try.func10, Try.ntmps10
  go_wp2_with (first
    | (go_at_call 11; refine (d_lives _).mono ?_; rintro e w0 ⟨rfl, k0⟩; have K0 := hidden k0; clear k0)
    | (go_at_call 12; refine (HN.out _).mono ?_; rintro e w1 ⟨g, rfl, hM⟩; obtain ⟨pb, rb, rc, ps, W1, k1⟩ := hM.wd hn4 hc2; have W0 := hidden W1; have K1b := hidden k1; have hB0 := K0.out.size; clear hM W1 k1))
  go_loopw [13] (fun i wr => ∃ k : Nat, k ≤ nl ∧ i = .int .i64 k ∧ (∃ m ps, WD w0.heap.size n c g pb c rb rc m k ps wr) ∧ Same w0 wr) (fun i wr => nl - (intOf i).toNat)
  case atStart => exact ⟨0, Nat.zero_le _, rfl, ⟨0, ps, W0.out⟩, Kept.trans (Kept.refl _ _) (by exact K1b.out)⟩
  case round =>
    obtain ⟨k, hk, rfl, ⟨m, ps', hW⟩, hS0⟩ := hrel
    have S1 := hidden (Kept.trans K0.out hS0)
    have S0 := hidden hS0
    have J1 := hidden hW
    have hkm : k ≤ 2513169434844 := by omega
    clear hS0 hW
    by_cases hlt : k < nl
    · obtain ⟨b, off, rfl, hcs⟩ := HLC.out (by omega)
      obtain ⟨hy, x0, x1, x2⟩ := hcs k hlt
      have hbl := World.block_lt_of_cell? w _ x0
      have y0 := Kept.cell S1.out (fun h => h) x0
      have y1 := Kept.cell S1.out (fun h => h) x1
      have y2 := Kept.cell S1.out (fun h => h) x2
      have X0 := hidden x0
      clear x0 x1 x2 hcs
      generalize (fl k).1 = kd at *
      generalize (fl k).2.1 = N at *
      generalize (fl k).2.2 = yb at *
      have q0 : (0 : Int) ≤ (k : Int) := Int.natCast_nonneg _
      have q1 : (k : Int) < (nl : Int) := by omega
      by_cases h1 : kd = 1
      · subst h1
        go_wp2
        go_region_held3 (fun w' => w'.cell? ⟨b, off + k * 5 + 1, none⟩ = some (.int .i64 N) ∧ w'.cell? ⟨b, off + k * 5 + 2, none⟩ = some (.int .u8 yb))
          (first | go_keep | (go_split_ands; exact ⟨by assumption, by assumption⟩))
          ((first
            | (go_at_call 24; refine (filled_any n yb _ (by omega) hy).mono ?_; rintro e w2 ⟨u2, rfl, o2, k2'⟩; have k2 : Same wr w2 := Kept.trans ((Kept.refl _ wr).drew) k2'; have OB := hidden o2.byt; obtain ⟨ua, uc, hue⟩ := o2.byt.form; rw [flTo_len] at hue; subst hue; have J2 := hidden (J1.out.kt k2); have S2 := hidden (Kept.trans S0.out k2); have t1 : w2.cell? ⟨b, off + k * 5 + 1, none⟩ = some (.int .i64 N) := Kept.cell k2 (fun h => h) y1; have t2 : w2.cell? ⟨b, off + k * 5 + 2, none⟩ = some (.int .u8 yb) := Kept.cell k2 (fun h => h) y2; clear o2 k2' k2)
            | (go_at_call 23; refine (wd_write J2.out (by omega) (by have := S2.out.size; omega) N _ (flTo n yb (min n 40)) OB.out (flTo_len _ _ _)).mono ?_; rintro e w3 ⟨⟨xr, rfl⟩, ⟨m3, W3⟩, k3⟩; have J3 := hidden W3; have S3 := hidden (KT.same S2.out k3 (Nat.le_refl _)); have r1 : w3.cell? ⟨b, off + k * 5 + 1, none⟩ = some (.int .i64 N) := Kept.cell k3 (fun hs => by have := hs.1; simp only at this; omega) t1; have r2 : w3.cell? ⟨b, off + k * 5 + 2, none⟩ = some (.int .u8 yb) := Kept.cell k3 (fun hs => by have := hs.1; simp only at this; omega) t2; have r0 : w3.cell? ⟨b, off + k * 5, none⟩ = some (.int .i64 1) := Kept.cell (Kept.trans K0.out S3.out) (fun h => h) X0.out; clear W3 k3)))
        all_goals
          go_wp2
          go_roundw
          case rel => exact ⟨k + 1, by omega, by go_num, ⟨m3, ps', J3.out⟩, S3.out⟩
          case measure => simp [intOf]; omega
      · have e1 : (kd == 1) = false := by simpa using h1
        by_cases h3 : kd = 3
        · subst h3
          go_wp2_with (go_at_call 25; refine (wd_flush J1.out (by omega)).mono ?_; rintro e w6 ⟨rfl, ⟨ps6, W6, h6⟩, kc⟩; have J6 := hidden W6; have S6 := hidden (KT.same S0.out kc (Nat.le_refl _)); clear W6 kc h6)
          go_roundw
          case rel => exact ⟨k + 1, by omega, by go_num, ⟨0, ps6, J6.out⟩, S6.out⟩
          case measure => simp [intOf]; omega
        · have e3 : (kd == 3) = false := by simpa using h3
          go_wp2
          go_roundw
          case rel => exact ⟨k + 1, by omega, by go_num, ⟨m, ps', J1.out.up (by omega)⟩, S0.out⟩
          case measure => simp [intOf]; omega
    · have q1 : ¬ (k : Int) < (nl : Int) := by omega
      by_cases hyb : mayB m 0 ks = true
      · have hy : mayB m 0 ks = true := hyb
        by_cases hme : ms = []
        · have z1 : ms.length = 0 := by rw [hme]; rfl
          have z2 : ¬ (0 : Int) < (ms.length : Int) := by omega
          go_wp2_with (first
            | (go_at_call 28; have _t := J1; refine (wd_crashYes J1.out (by omega) _ ks (HKS.out _ S1.out) (fun a k c e h => Nat.lt_of_lt_of_le (HKB.out a k c e h) hB0) (by omega) hy).mono ?_; rintro e w2 ⟨rfl, hC⟩; obtain ⟨ps1, W2, _⟩ := hC.ex; have K2 := hidden (KT.same S1.out hC.kt hB0); have J2 := hidden W2; obtain ⟨pl, pl1, pl2, pl3⟩ := W2.lists; have P1 := hidden pl1; have P2 := hidden pl2; have P3 := hidden pl3; clear J1 W2 hC pl1 pl2 pl3)
            | (go_at_call 15; have _t := J2; refine (wd_image J2.out (by omega) pl P1.out P2.out P3.out).mono ?_; rintro e w3 ⟨u3, rfl, o3, k3⟩; have O3 := hidden o3; have K3 := hidden (Kept.trans K2.out k3); have J4 := hidden (J2.out.kt k3); have PO3 : Hid (∀ i (h : i < ps1.length) (h' : i < pl.length), Own w3 ps1[i] pl[i] 0) := (fun i h h' => (P3.out i h h').same k3); have hfl : pl.flatten.length = n * c := (by rw [flat_len P2.out, P1.out, Nat.mul_comm]); have HFL := hidden hfl; obtain ⟨ua, uc, hue⟩ := o3.byt.form; rw [hfl] at hue; subst hue; clear J2 o3 k3 hfl)
            | (go_at_call 28; have _t := J4; refine (wd_crashYes J4.out (by omega) (.slice none 0 0) [] (Or.inl ⟨rfl, rfl⟩) (fun a k c e => by cases e) (by simp) rfl).mono ?_; rintro e w5 ⟨rfl, hC⟩; obtain ⟨ps2, W5, hps⟩ := hC.ex; have kc := hC.kt; have hps := hps rfl; rw [hps] at W5; have K5 := hidden (KT.same K3.out kc hB0); have J5 := hidden W5; have O5 := hidden (O3.out.kt kc); have PO5 : Hid (∀ i (h : i < ps1.length) (h' : i < pl.length), Own w5 ps1[i] pl[i] 0) := (fun i h h' => (PO3.out i h h').kt kc); clear J4 W5 hC kc hps)
            | (go_at_call 25; have _t := J5; refine (wd_flush J5.out (by omega)).mono ?_; rintro e w6 ⟨rfl, ⟨ps6, W6, h6⟩, kc⟩; have h6 := h6 rfl; rw [h6] at W6; have K6 := hidden (KT.same K5.out kc hB0); have J6 := hidden W6; have O6 := hidden (O5.out.kt kc); have PO6 : Hid (∀ i (h : i < ps1.length) (h' : i < pl.length), Own w6 ps1[i] pl[i] 0) := (fun i h h' => (PO5.out i h h').kt kc); clear J5 W6 kc h6)
            | (go_at_call 15; have _t := J6; refine (wd_image J6.out (by omega) pl P1.out P2.out PO6.out).mono ?_; rintro e w7 ⟨u7, rfl, o7, k7⟩; have O7 := hidden o7; have O8 := hidden (O6.out.same k7); have K7 := hidden (Kept.trans K6.out k7); clear J6 o7 k7)
            | (go_at_call 14; refine (same_eq _ _ pl.flatten _ O7.out.byt O8.out.byt (by rw [HFL.out]; omega)).mono ?_; rintro e w8 ⟨rfl, k8⟩; have K8 := hidden (Kept.trans K7.out k8); clear k8))
          go_returns
          exact ⟨by first | rfl | simp, K8.out⟩
        · have hmz := mayB_none hme
          have z1 : 0 < ms.length := List.length_pos_iff.2 hme
          have z2 : (0 : Int) < (ms.length : Int) := by omega
          go_wp2_with (first
            | (go_at_call 28; have _t := J1; refine (wd_crashYes J1.out (by omega) _ ks (HKS.out _ S1.out) (fun a k c e h => Nat.lt_of_lt_of_le (HKB.out a k c e h) hB0) (by omega) hy).mono ?_; rintro e w2 ⟨rfl, hC⟩; obtain ⟨ps1, W2, _⟩ := hC.ex; have K2 := hidden (KT.same S1.out hC.kt hB0); have J2 := hidden W2; obtain ⟨pl, pl1, pl2, pl3⟩ := W2.lists; have P1 := hidden pl1; have P2 := hidden pl2; have P3 := hidden pl3; clear J1 W2 hC pl1 pl2 pl3)
            | (go_at_call 15; have _t := J2; refine (wd_image J2.out (by omega) pl P1.out P2.out P3.out).mono ?_; rintro e w3 ⟨u3, rfl, o3, k3⟩; have O3 := hidden o3; have K3 := hidden (Kept.trans K2.out k3); have J3 := hidden (J2.out.kt k3); have PO3 : Hid (∀ i (h : i < ps1.length) (h' : i < pl.length), Own w3 ps1[i] pl[i] 0) := (fun i h h' => (P3.out i h h').same k3); have hfl : pl.flatten.length = n * c := (by rw [flat_len P2.out, P1.out, Nat.mul_comm]); have HFL := hidden hfl; obtain ⟨ua, uc, hue⟩ := o3.byt.form; rw [hfl] at hue; subst hue; clear J2 o3 k3 hfl)
            | (go_at_call 28; have _t := J3; refine (wd_crashNo J3.out (by omega) _ ms (HMS.out _ K3.out) (by omega) hmz).mono ?_; rintro e w4 ⟨rfl, rfl⟩; have J4 := J3; clear J3)
            | (go_at_call 28; have _t := J4; refine (wd_crashYes J4.out (by omega) (.slice none 0 0) [] (Or.inl ⟨rfl, rfl⟩) (fun a k c e => by cases e) (by simp) rfl).mono ?_; rintro e w5 ⟨rfl, hC⟩; obtain ⟨ps2, W5, hps⟩ := hC.ex; have kc := hC.kt; have hps := hps rfl; rw [hps] at W5; have K5 := hidden (KT.same K3.out kc hB0); have J5 := hidden W5; have O5 := hidden (O3.out.kt kc); have PO5 : Hid (∀ i (h : i < ps1.length) (h' : i < pl.length), Own w5 ps1[i] pl[i] 0) := (fun i h h' => (PO3.out i h h').kt kc); clear J4 W5 hC kc hps)
            | (go_at_call 25; have _t := J5; refine (wd_flush J5.out (by omega)).mono ?_; rintro e w6 ⟨rfl, ⟨ps6, W6, h6⟩, kc⟩; have h6 := h6 rfl; rw [h6] at W6; have K6 := hidden (KT.same K5.out kc hB0); have J6 := hidden W6; have O6 := hidden (O5.out.kt kc); have PO6 : Hid (∀ i (h : i < ps1.length) (h' : i < pl.length), Own w6 ps1[i] pl[i] 0) := (fun i h h' => (PO5.out i h h').kt kc); clear J5 W6 kc h6)
            | (go_at_call 15; have _t := J6; refine (wd_image J6.out (by omega) pl P1.out P2.out PO6.out).mono ?_; rintro e w7 ⟨u7, rfl, o7, k7⟩; have O7 := hidden o7; have O8 := hidden (O6.out.same k7); have K7 := hidden (Kept.trans K6.out k7); clear J6 o7 k7)
            | (go_at_call 14; refine (same_eq _ _ pl.flatten _ O7.out.byt O8.out.byt (by rw [HFL.out]; omega)).mono ?_; rintro e w8 ⟨rfl, k8⟩; have K8 := hidden (Kept.trans K7.out k8); clear k8))
          go_returns
          exact ⟨by first | rfl | simp, K8.out⟩
      · have hy : mayB m 0 ks = false := by simpa using hyb
        by_cases hme : ms = []
        · have z1 : ms.length = 0 := by rw [hme]; rfl
          have z2 : ¬ (0 : Int) < (ms.length : Int) := by omega
          go_wp2_with (first
            | (go_at_call 28; have _t := J1; refine (wd_crashNo J1.out (by omega) _ ks (HKS.out _ S1.out) (by omega) hy).mono ?_; rintro e w2 ⟨rfl, rfl⟩; have J1b := J1; clear J1)
            | (go_at_call 28; have _t := J1b; refine (wd_crashYes J1b.out (by omega) (.slice none 0 0) [] (Or.inl ⟨rfl, rfl⟩) (fun a k c e => by cases e) (by simp) rfl).mono ?_; rintro e w2 ⟨rfl, hC⟩; obtain ⟨ps1, W2, _⟩ := hC.ex; have K2 := hidden (KT.same S1.out hC.kt hB0); have J2 := hidden W2; obtain ⟨pl, pl1, pl2, pl3⟩ := W2.lists; have P1 := hidden pl1; have P2 := hidden pl2; have P3 := hidden pl3; clear J1b W2 hC pl1 pl2 pl3)
            | (go_at_call 15; have _t := J2; refine (wd_image J2.out (by omega) pl P1.out P2.out P3.out).mono ?_; rintro e w3 ⟨u3, rfl, o3, k3⟩; have O3 := hidden o3; have K3 := hidden (Kept.trans K2.out k3); have J4 := hidden (J2.out.kt k3); have PO3 : Hid (∀ i (h : i < ps1.length) (h' : i < pl.length), Own w3 ps1[i] pl[i] 0) := (fun i h h' => (P3.out i h h').same k3); have hfl : pl.flatten.length = n * c := (by rw [flat_len P2.out, P1.out, Nat.mul_comm]); have HFL := hidden hfl; obtain ⟨ua, uc, hue⟩ := o3.byt.form; rw [hfl] at hue; subst hue; clear J2 o3 k3 hfl)
            | (go_at_call 28; have _t := J4; refine (wd_crashYes J4.out (by omega) (.slice none 0 0) [] (Or.inl ⟨rfl, rfl⟩) (fun a k c e => by cases e) (by simp) rfl).mono ?_; rintro e w5 ⟨rfl, hC⟩; obtain ⟨ps2, W5, hps⟩ := hC.ex; have kc := hC.kt; have hps := hps rfl; rw [hps] at W5; have K5 := hidden (KT.same K3.out kc hB0); have J5 := hidden W5; have O5 := hidden (O3.out.kt kc); have PO5 : Hid (∀ i (h : i < ps1.length) (h' : i < pl.length), Own w5 ps1[i] pl[i] 0) := (fun i h h' => (PO3.out i h h').kt kc); clear J4 W5 hC kc hps)
            | (go_at_call 25; have _t := J5; refine (wd_flush J5.out (by omega)).mono ?_; rintro e w6 ⟨rfl, ⟨ps6, W6, h6⟩, kc⟩; have h6 := h6 rfl; rw [h6] at W6; have K6 := hidden (KT.same K5.out kc hB0); have J6 := hidden W6; have O6 := hidden (O5.out.kt kc); have PO6 : Hid (∀ i (h : i < ps1.length) (h' : i < pl.length), Own w6 ps1[i] pl[i] 0) := (fun i h h' => (PO5.out i h h').kt kc); clear J5 W6 kc h6)
            | (go_at_call 15; have _t := J6; refine (wd_image J6.out (by omega) pl P1.out P2.out PO6.out).mono ?_; rintro e w7 ⟨u7, rfl, o7, k7⟩; have O7 := hidden o7; have O8 := hidden (O6.out.same k7); have K7 := hidden (Kept.trans K6.out k7); clear J6 o7 k7)
            | (go_at_call 14; refine (same_eq _ _ pl.flatten _ O7.out.byt O8.out.byt (by rw [HFL.out]; omega)).mono ?_; rintro e w8 ⟨rfl, k8⟩; have K8 := hidden (Kept.trans K7.out k8); clear k8))
          go_returns
          exact ⟨by first | rfl | simp, K8.out⟩
        · have hmz := mayB_none hme
          have z1 : 0 < ms.length := List.length_pos_iff.2 hme
          have z2 : (0 : Int) < (ms.length : Int) := by omega
          go_wp2_with (first
            | (go_at_call 28; have _t := J1; refine (wd_crashNo J1.out (by omega) _ ks (HKS.out _ S1.out) (by omega) hy).mono ?_; rintro e w2 ⟨rfl, rfl⟩; have J1b := J1; clear J1)
            | (go_at_call 28; have _t := J1b; refine (wd_crashYes J1b.out (by omega) (.slice none 0 0) [] (Or.inl ⟨rfl, rfl⟩) (fun a k c e => by cases e) (by simp) rfl).mono ?_; rintro e w2 ⟨rfl, hC⟩; obtain ⟨ps1, W2, _⟩ := hC.ex; have K2 := hidden (KT.same S1.out hC.kt hB0); have J2 := hidden W2; obtain ⟨pl, pl1, pl2, pl3⟩ := W2.lists; have P1 := hidden pl1; have P2 := hidden pl2; have P3 := hidden pl3; clear J1b W2 hC pl1 pl2 pl3)
            | (go_at_call 15; have _t := J2; refine (wd_image J2.out (by omega) pl P1.out P2.out P3.out).mono ?_; rintro e w3 ⟨u3, rfl, o3, k3⟩; have O3 := hidden o3; have K3 := hidden (Kept.trans K2.out k3); have J3 := hidden (J2.out.kt k3); have PO3 : Hid (∀ i (h : i < ps1.length) (h' : i < pl.length), Own w3 ps1[i] pl[i] 0) := (fun i h h' => (P3.out i h h').same k3); have hfl : pl.flatten.length = n * c := (by rw [flat_len P2.out, P1.out, Nat.mul_comm]); have HFL := hidden hfl; obtain ⟨ua, uc, hue⟩ := o3.byt.form; rw [hfl] at hue; subst hue; clear J2 o3 k3 hfl)
            | (go_at_call 28; have _t := J3; refine (wd_crashNo J3.out (by omega) _ ms (HMS.out _ K3.out) (by omega) hmz).mono ?_; rintro e w4 ⟨rfl, rfl⟩; have J4 := J3; clear J3)
            | (go_at_call 28; have _t := J4; refine (wd_crashYes J4.out (by omega) (.slice none 0 0) [] (Or.inl ⟨rfl, rfl⟩) (fun a k c e => by cases e) (by simp) rfl).mono ?_; rintro e w5 ⟨rfl, hC⟩; obtain ⟨ps2, W5, hps⟩ := hC.ex; have kc := hC.kt; have hps := hps rfl; rw [hps] at W5; have K5 := hidden (KT.same K3.out kc hB0); have J5 := hidden W5; have O5 := hidden (O3.out.kt kc); have PO5 : Hid (∀ i (h : i < ps1.length) (h' : i < pl.length), Own w5 ps1[i] pl[i] 0) := (fun i h h' => (PO3.out i h h').kt kc); clear J4 W5 hC kc hps)
            | (go_at_call 25; have _t := J5; refine (wd_flush J5.out (by omega)).mono ?_; rintro e w6 ⟨rfl, ⟨ps6, W6, h6⟩, kc⟩; have h6 := h6 rfl; rw [h6] at W6; have K6 := hidden (KT.same K5.out kc hB0); have J6 := hidden W6; have O6 := hidden (O5.out.kt kc); have PO6 : Hid (∀ i (h : i < ps1.length) (h' : i < pl.length), Own w6 ps1[i] pl[i] 0) := (fun i h h' => (PO5.out i h h').kt kc); clear J5 W6 kc h6)
            | (go_at_call 15; have _t := J6; refine (wd_image J6.out (by omega) pl P1.out P2.out PO6.out).mono ?_; rintro e w7 ⟨u7, rfl, o7, k7⟩; have O7 := hidden o7; have O8 := hidden (O6.out.same k7); have K7 := hidden (Kept.trans K6.out k7); clear J6 o7 k7)
            | (go_at_call 14; refine (same_eq _ _ pl.flatten _ O7.out.byt O8.out.byt (by rw [HFL.out]; omega)).mono ?_; rintro e w8 ⟨rfl, k8⟩; have K8 := hidden (Kept.trans K7.out k8); clear k8))
          go_returns
          exact ⟨by first | rfl | simp, K8.out⟩
end Go.Proofs.Ytpfcggliibmdbaa
