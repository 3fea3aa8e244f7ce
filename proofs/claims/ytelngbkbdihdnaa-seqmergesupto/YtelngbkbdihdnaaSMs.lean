/- SeqMerges, walked. -/
import Derived.Test.YtelngbkbdihdnaaMg4
namespace Go.Proofs.Ytelngbkbdihdnaa
open Go.RowKit
set_option linter.unusedVariables false
theorem own_two' {w : World} {B C n m s r : Nat} {e f : TypeId} {u v : Value} {xs ys : List Value} (h : w.ownsRow B e s u n xs) (k : w.ownsRow C f r v m ys) (hne : e ≠ f) : ∀ b, v.ownBlock = some b → ¬ u.ownBlock = some b := fun b hb hu => by
  rcases h.2 with ⟨h2, _⟩ | ⟨g', cap', cur, hv, _, hg, _⟩
  · rw [h2] at hu; cases hu
  · rcases k.2 with ⟨k2, _⟩ | ⟨g2, cap2, cur2, kv, _, kg, _⟩
    · rw [k2] at hb; cases hb
    · rw [hv] at hu
      rw [kv] at hb
      simp [Value.ownBlock] at hb hu
      subst hb hu
      rw [hg] at kg
      simp at kg
      exact hne kg.2
theorem mergeD3 {W : World} {x y z : Value} {a b c : List Kv} {g cap : Nat} (hx : Its W x a) (hy : Its W y b) (hz : Its W z c) (c0 : W.cell? ⟨g, 0, none⟩ = some x) (c1 : W.cell? ⟨g, 1, none⟩ = some y) (c2 : W.cell? ⟨g, 2, none⟩ = some z) (hb : a.length + b.length + c.length ≤ 1048576) :
    Calls Try.prog 34 #[.slice (some ⟨g, 0, none⟩) 3 cap] W fun e w' => ∃ u, e = .returned u ∧ ∃ M, ItR 0 w' u M ∧ Srt M ∧ (∀ k, lk k M = sel [sortL a, sortL b, sortL c] k) ∧ Same W w' := by
  have h := mergeD_any (Ls := [a, b, c]) (vs := [x, y, z]) (la := some ⟨g, 0, none⟩) (lc := cap) (w := W) rfl (fun j hj => ⟨g, 0, rfl, by
    rw [Nat.zero_add]
    match j, hj with
    | 0, _ => exact c0
    | 1, _ => exact c1
    | 2, _ => exact c2⟩) (fun j hj => match j, hj with
    | 0, _ => hx
    | 1, _ => hy
    | 2, _ => hz) (by simp) (by simp only [List.flatten_cons, List.flatten_nil, List.length_append, List.length_nil]; omega)
  refine h.mono ?_
  rintro e w' ⟨u, rfl, M, h1, h2, h3, h4, h5⟩
  exact ⟨u, rfl, M, h1, h2, h3, h5⟩
theorem merge0 (W : World) : Calls Try.prog 33 #[.slice none 0 0] W fun e w' => (∃ a c, e = .returned (.slice a 0 c)) ∧ Same W w' := by
  have h := merge_any (Ls := []) (vs := []) (la := none) (lc := 0) (w := W) rfl (fun j hj => by simp at hj) (fun j hj => by simp at hj) (by simp) (by simp)
  refine h.mono ?_
  rintro e w' ⟨u, rfl, M, h1, h2, h3, h4, h5⟩
  have e0 : M = [] := by simpa using h4
  subst e0
  obtain ⟨a, c, rfl, _⟩ := h1.itc
  exact ⟨⟨a, c, rfl⟩, h5⟩
set_option maxHeartbeats 1000000 in
set_option maxRecDepth 100000 in
theorem merges_walk (va : Value) (a : List Kv) (vb : Value) (b : List Kv) (vc : Value) (c : List Kv) (w : World) (ha : Its w va a) (hb : Its w vb b) (hc : Its w vc c) (hbk : a.length + b.length + c.length ≤ 1048576) :
    Calls Try.prog 7 #[va, vb, vc] w fun e w' => e = .returned (.bool true) ∧ Same w w' := by
  have HAI : Hid (∀ W, Same w W → Its W va a) := fun W kk => ha.same kk
  have HBI : Hid (∀ W, Same w W → Its W vb b) := fun W kk => hb.same kk
  have HCI : Hid (∀ W, Same w W → Its W vc c) := fun W kk => hc.same kk
  have HA := hidden (fun W (kk : Same w W) => items_law (ha.same kk) (by omega))
  have HB := hidden (fun W (kk : Same w W) => items_law (hb.same kk) (by omega))
  have HC := hidden (fun W (kk : Same w W) => items_law (hc.same kk) (by omega))
  have HBK := hidden hbk
  obtain ⟨pa, qa, rfl, _⟩ := id ha
  obtain ⟨pb, qb, rfl, _⟩ := id hb
  obtain ⟨pc, qc, rfl, _⟩ := id hc
  have hla : a.length ≤ 562949953421312 := by omega
  have hlb : b.length ≤ 562949953421312 := by omega
  have hlc : c.length ≤ 562949953421312 := by omega
  have t1 : True := trivial
  have t2 : True := trivial
  have t3 : True := trivial
  have t4 : True := trivial
  have t5 : True := trivial
  have t6 : True := trivial
  have t7 : True := trivial
  clear ha hb hc hbk
  go_enter Try.func7, Try.ntmps7
  go_wp2_with (first
    | (go_at_call 12; go_must (refine (awake_any _).mono ?_; rintro e w1 ⟨rfl, k1⟩; have K1 := hidden k1; clear k1))
    | (go_at_call 32; have _t := t1; go_must (refine (HA.out _ K1.out).mono ?_; rintro e w2 ⟨u2, rfl, i2, k2⟩; obtain ⟨p2, c2, rfl, -, -⟩ := id i2.itc; have X2 := hidden i2; have K2 := hidden (K1.out.trans k2); clear i2 k2 t1))
    | (go_at_call 32; have _t := t2; go_must (refine (HB.out _ K2.out).mono ?_; rintro e w3 ⟨u3, rfl, i3, k3⟩; obtain ⟨p3, c3, rfl, -, -⟩ := id i3.itc; have X3 := hidden (own_kept X2.out k3 (fun _ _ h => h)); have Y3 := hidden i3; have K3 := hidden (K2.out.trans k3); clear i3 k3 t2))
    | (go_at_call 32; go_must (refine (HC.out _ K3.out).mono ?_; rintro e w4 ⟨u4, rfl, i4, k4⟩; obtain ⟨p4, c4, rfl, -, -⟩ := id i4.itc; have X4 := hidden (own_kept X3.out k4 (fun _ _ h => h)); have Y4 := hidden (own_kept Y3.out k4 (fun _ _ h => h)); have Z4 := hidden i4; have K4 := hidden (K3.out.trans k4); clear i4 k4; have s5 := same_alloc w4 (.cells #[.slice p2 a.length c2, .slice p3 b.length c3, .slice p4 c.length c4] 58); have g5 := heap_alloc_new w4 (.cells #[.slice p2 a.length c2, .slice p3 b.length c3, .slice p4 c.length c4] 58); have M5 := hidden (merge3 (cap := 3) ((itc_own X4.out).same s5) ((itc_own Y4.out).same s5) ((itc_own Z4.out).same s5) (blk_cell g5) (blk_cell g5) (blk_cell g5) HBK.out); have S5 := hidden s5; clear s5 g5))
    | (go_at_call 33; have _t := t3; go_must (refine (M5.out).mono ?_; rintro e w6 ⟨u6, rfl, A, i6, h6s, h6k, h6l, k6⟩; obtain ⟨p6, c6, rfl, -, -⟩ := id i6.itc; have k46 := S5.out.trans k6; have G6 := hidden i6; have X6 := hidden (own_kept X4.out k46 (fun _ _ h => h)); have Y6 := hidden (own_kept Y4.out k46 (fun _ _ h => h)); have Z6 := hidden (own_kept Z4.out k46 (fun _ _ h => h)); have A6 := hidden h6s; have L6 := hidden h6k; have N6 := hidden h6l; have K6 := hidden (K4.out.trans k46); clear i6 h6s h6k h6l k6 k46 t3; have s7 := same_alloc w6 (.cells #[.slice pa a.length qa, .slice pb b.length qb, .slice pc c.length qc] 42); have g7 := heap_alloc_new w6 (.cells #[.slice pa a.length qa, .slice pb b.length qb, .slice pc c.length qc] 42); have M7 := hidden (mergeD3 (cap := 3) (HAI.out _ (K6.out.trans s7)) (HBI.out _ (K6.out.trans s7)) (HCI.out _ (K6.out.trans s7)) (blk_cell g7) (blk_cell g7) (blk_cell g7) HBK.out); have S7 := hidden s7; clear s7 g7))
    | (go_at_call 34; go_must (refine (M7.out).mono ?_; rintro e w8 ⟨u8, rfl, Md, i8, h8s, h8k, k8⟩; obtain rfl : A = Md := srt_ext A6.out h8s (fun k => by rw [h8k, L6.out]); obtain ⟨p8, c8, rfl, -, -⟩ := id i8.itc; have k68 := S7.out.trans k8; have W8 := hidden i8; have G8 := hidden (own_kept G6.out k68 (fun _ _ h => h)); have X8 := hidden (own_kept X6.out k68 (fun _ _ h => h)); have Y8 := hidden (own_kept Y6.out k68 (fun _ _ h => h)); have Z8 := hidden (own_kept Z6.out k68 (fun _ _ h => h)); have K8 := hidden (K6.out.trans k68); clear i8 h8s h8k k8 k68))
    | (go_at_call 35; have _t := t4; go_must (refine (same_any (itc_own G8.out).its W8.out.itc.its (by have h8 := N6.out; have h9 := HBK.out; omega)).mono ?_; rintro e w9 ⟨rfl, k9⟩; have V9 := hidden k9; clear k9 t4))
    | (go_at_call 35; have _t := t5; go_must (refine (same_any ((itc_own X8.out).its.same V9.out) (HAI.out _ (K8.out.trans V9.out)) hla).mono ?_; rintro e wA ⟨rfl, kA⟩; have VA := hidden (V9.out.trans kA); clear kA t5))
    | (go_at_call 35; have _t := t6; go_must (refine (same_any ((itc_own Y8.out).its.same VA.out) (HBI.out _ (K8.out.trans VA.out)) hlb).mono ?_; rintro e wB ⟨rfl, kB⟩; have VB := hidden (VA.out.trans kB); clear kB t6))
    | (go_at_call 35; go_must (refine (same_any ((itc_own Z8.out).its.same VB.out) (HCI.out _ (K8.out.trans VB.out)) hlc).mono ?_; rintro e wC ⟨rfl, kC⟩; have VC := hidden (VB.out.trans kC); clear kC)))
  have GC := hidden (own_kept G8.out VC.out (fun _ _ h => h))
  have WC := hidden (own_kept W8.out VC.out (fun _ _ h => h))
  have XC := hidden (own_kept X8.out VC.out (fun _ _ h => h))
  have YC := hidden (own_kept Y8.out VC.out (fun _ _ h => h))
  have ZC := hidden (own_kept Z8.out VC.out (fun _ _ h => h))
  have KC := hidden (K8.out.trans VC.out)
  obtain ⟨base, hbase⟩ : ∃ B, B = (w4.alloc (.cells #[.slice p2 a.length c2, .slice p3 b.length c3, .slice p4 c.length c4] 58)).heap.size := ⟨_, rfl⟩
  rw [← hbase] at GC
  have hb4 : w4.heap.size ≤ base := by rw [hbase]; exact S5.out.size
  have hbw : w.heap.size ≤ base := Nat.le_trans K4.out.size hb4
  have hdX : Hid (∀ q, (Value.slice p2 a.length c2).ownBlock = some q → ¬ (Value.slice p6 A.length c6).ownBlock = some q) := fun q hq hg => by have h1 := (X4.out.lt q hq).2; have h2 := (GC.out.lt q hg).1; omega
  have hdY : Hid (∀ q, (Value.slice p3 b.length c3).ownBlock = some q → ¬ (Value.slice p6 A.length c6).ownBlock = some q) := fun q hq hg => by have h1 := (Y4.out.lt q hq).2; have h2 := (GC.out.lt q hg).1; omega
  have hdZ : Hid (∀ q, (Value.slice p4 c.length c4).ownBlock = some q → ¬ (Value.slice p6 A.length c6).ownBlock = some q) := fun q hq hg => by have h1 := (Z4.out.lt q hq).2; have h2 := (GC.out.lt q hg).1; omega
  have hdW := hidden (own_two' GC.out WC.out (by decide))
  have HNB : Hid (A.length ≤ 1048576) := Nat.le_trans N6.out HBK.out
  have hnb := HNB.out
  obtain ⟨n, hn⟩ : ∃ n, A.length = n := ⟨_, rfl⟩
  have HN := hidden hn
  have HG : Hid (wC.ownsRow base 54 2 (.slice p6 n c6) n (flat A)) := by rw [Hid, ← hn]; exact GC.out
  rw [hn] at hdX hdY hdZ hdW hnb WC ⊢
  clear hbase hn HA HB HC K1 X2 K2 X3 Y3 K3 X4 Y4 Z4 K4 M5 S5 G6 X6 Y6 Z6 K6 M7 S7 W8 G8 X8 Y8 Z8 K8 V9 VA VB VC GC HNB
  go_loopw [55] (fun iv wr => ∃ (i : Nat) (xs : List Value), i ≤ n ∧ iv = .int .i64 i ∧ wr.ownsRow base 54 2 (.slice p6 n c6) n xs ∧ Kept (fun q => (Value.slice p6 n c6).ownBlock = some q) wC wr) (fun iv wr => n - (intOf iv).toNat)
  case atStart => exact ⟨0, flat A, Nat.zero_le _, rfl, HG.out, Kept.refl _ _⟩
  case round =>
    obtain ⟨i, xs, hi, rfl, hO, hK⟩ := hrel
    have HO := hidden hO
    have HK := hidden hK
    by_cases h1 : i < n
    · obtain ⟨g, rfl, hg, hgc⟩ := own_at hO (by omega)
      have hx : i * 2 + 1 < xs.length := by rw [hO.1]; omega
      have y0 := hO.cells (g := g) rfl _ _ (List.getElem?_eq_getElem hx)
      rw [add_none, Nat.zero_add] at y0
      generalize xs[i * 2 + 1] = uu at y0
      have y1 : ∀ j, wr.frozen? ⟨g, j, none⟩ = false := fun j => own_free HO.out
      have q1 : (i : Int) < (n : Int) := by omega
      have q0 : (0 : Int) ≤ (i : Int) := Int.natCast_nonneg _
      clear hO hK hx
      go_wp2
      go_roundw
      case rel => exact ⟨i + 1, _, by omega, by go_num, own_setS (i := i * 2 + 1) HO.out _, HK.out.setCell (p := ⟨g, i * 2 + 1, none⟩) rfl _⟩
      case measure => simp [intOf]; omega
    · obtain rfl : i = n := by omega
      have q1 : ¬ (i : Int) < (i : Int) := by omega
      have XD := hidden (itc_own (own_kept XC.out hK hdX.out))
      have YD := hidden (itc_own (own_kept YC.out hK hdY.out))
      have ZD := hidden (itc_own (own_kept ZC.out hK hdZ.out))
      have WD : Hid (Its wr (.slice p8 i c8) A) := by
        have h9 := itc_own (l := A) (own_kept (v := .slice p8 A.length c8) (by rw [HN.out]; exact WC.out) hK (by rw [HN.out]; exact hdW.out))
        rw [HN.out] at h9
        exact h9.its
      have KD : Hid (Same w wr) := KC.out.trans' hK (fun q hq hs => by have h2 := (HG.out.lt q hs).1; omega)
      have sE := same_alloc wr (.cells #[.slice p2 a.length c2, .slice p3 b.length c3, .slice p4 c.length c4] 58)
      have gE := heap_alloc_new wr (.cells #[.slice p2 a.length c2, .slice p3 b.length c3, .slice p4 c.length c4] 58)
      have ME := hidden (merge3 (cap := 3) (XD.out.same sE) (YD.out.same sE) (ZD.out.same sE) (blk_cell gE) (blk_cell gE) (blk_cell gE) HBK.out)
      have SE := hidden sE
      clear hO hK sE gE
      go_wp2_with (first
        | (go_at_call 33; have _t := t7; go_must (refine (ME.out).mono ?_; rintro e wF ⟨uF, rfl, Ag, iF, hFs, hFk, hFl, kF⟩; obtain rfl : A = Ag := srt_ext A6.out hFs (fun k => by rw [hFk, L6.out]); obtain ⟨pF, cF, rfl, -, -⟩ := id iF.itc; have RF := hidden iF.itc; have kDF := SE.out.trans kF; have WF := hidden (WD.out.same kDF); have KF := hidden (KD.out.trans kDF); clear iF hFs hFk hFl kF kDF t7))
        | (go_at_call 35; go_must (refine (same_any RF.out.its WF.out (by rw [HN.out]; omega)).mono ?_; rintro e wG ⟨rfl, kG⟩; have KG := hidden (KF.out.trans kG); clear kG))
        | (go_at_call 33; go_must (refine (merge0 _).mono ?_; rintro e wH ⟨⟨aH, cH, rfl⟩, kH⟩; have KH := hidden (KG.out.trans kH); clear kH)))
      go_returns
      exact ⟨by first | rfl | simp, KH.out⟩
end Go.Proofs.Ytelngbkbdihdnaa
