/- SeqMerged, walked. -/
import Derived.Test.YtelngbkbdihdnaaMg3
/- Items under a bound on all that is read. -/
namespace Go.Proofs.Ytelngbkbdihdnaa
open Go.ChangeShapes Go.WideShapes Go.ChangeAt Go.RowKit Go.Joins Go.ChangeMaps
set_option linter.unusedVariables false
theorem bulk_pos {H : Type} : ∀ d : DataW H, 1 ≤ Rows.uptoBulk d
  | .lit (.string _) => by simp [Rows.uptoBulk]
  | .lit (.bool _) => by simp [Rows.uptoBulk]
  | .lit _ => by unfold Rows.uptoBulk; split <;> omega
  | .nil => by simp [Rows.uptoBulk]
  | .ptr _ => by simp [Rows.uptoBulk]
  | .slice _ _ => by simp [Rows.uptoBulk]
  | .agg _ => by simp [Rows.uptoBulk]
  | .iface _ _ => by simp [Rows.uptoBulk]
  | .map _ => by simp [Rows.uptoBulk]
  | .held _ => by simp [Rows.uptoBulk]
theorem bulk_len {H : Type} : ∀ l : List (DataW H), l.length ≤ Rows.uptoBulkAll l
  | [] => Nat.zero_le _
  | d :: l => by
    have h1 := bulk_pos d
    have h2 := bulk_len l
    simp only [Rows.uptoBulkAll, List.length_cons]
    omega
set_option maxRecDepth 100000 in
theorem its_openU {H : Type} {enc : TypeId × Value → H} {W : World} {base : Nat} {v : Value} {d : DataW H} {p : List MemPlace} (hv : Value.okWide Try.prog W .any base 42 v) (h : DataW.Trod enc Try.prog W 0 (fun _ => true) true 42 v d p) :
    ∃ l : List Kv, Its W v l ∧ l.length ≤ Rows.uptoBulk d := by
  obtain ⟨a1, len1, cap1, rfl⟩ := okWide_slice Try.underlying42 hv
  obtain ⟨fuel, hf⟩ := h
  rcases DataW.trod_slice Try.underlying42 hf with ⟨hcs, hx⟩ | ⟨a, len, cap, elems, rest, n, _, hcs, hx, _, hl, hm, he, hel, _, _⟩
  · simp [Value.cells] at hcs
    obtain ⟨rfl, rfl, rfl⟩ := hcs
    exact ⟨[], ⟨none, 0, rfl, fun h => by simp at h⟩, by simp⟩
  · simp [Value.cells] at hcs
    obtain ⟨rfl, rfl, rfl⟩ := hcs
    rw [cellsItem] at hel
    have hd : d = .slice (elems.map (·.1)) (rest.map (·.1)) := congrArg Prod.fst hx
    have key : ∀ i, i < len1 → ∃ q : Kv, W.cell? (a.add (i * 2)) = some (.string q.1) ∧ W.cell? ((a.add (i * 2)).add 1) = some (.int .i64 q.2) := by
      intro i hi
      have h1 := hel i hi
      have h2 : elems[i]? = some elems[i] := List.getElem?_eq_getElem (by omega)
      rw [h2] at h1
      obtain ⟨cs, hc, ht⟩ := Option.bind_eq_some_iff.1 h1
      obtain ⟨_, hcl, hcc⟩ := World.cells?_some hc
      match cs, hcl with
      | [c0, c1], _ =>
        obtain ⟨q, rfl, rfl⟩ := item_trod ht
        have z0 := hcc 0 (by decide)
        exact ⟨q, by simpa [Addr.add] using z0, hcc 1 (by decide)⟩
    obtain ⟨f, hfk⟩ := Go.Deep.choose_lt (α := Kv) key
    have hll : ((List.range len1).map f).length = len1 := by simp
    refine ⟨(List.range len1).map f, ⟨some a, cap1, by rw [hll], fun hpos => ?_⟩, ?_⟩
    · rw [hll] at hpos
      obtain ⟨b, off, spot⟩ := a
      have hspot : spot = none := by
        obtain ⟨h0, _⟩ := hfk 0 hpos
        simpa [Addr.add] using World.cell?_spot h0
      subst hspot
      refine ⟨b, off, rfl, fun i hi => ?_⟩
      rw [hll] at hi
      obtain ⟨h0, h1⟩ := hfk i hi
      rw [sadd_plain] at h0 h1
      rw [sadd_plain] at h1
      simpa using ⟨h0, h1⟩
    · rw [hd, hll]
      have h9 := bulk_len (elems.map (·.1))
      simp only [List.length_map] at h9
      simp only [Rows.uptoBulk]
      omega
end Go.Proofs.Ytelngbkbdihdnaa
namespace Go.Proofs.Ytelngbkbdihdnaa
open Go.RowKit
set_option linter.unusedVariables false
theorem bhd_srt {p : Kv} {t : List Kv} (h : Srt (p :: t)) : bhd (p :: t) = t := by
  show List.dropWhile (fun q : Kv => !ltS p.1 q.1) (p :: t) = t
  rw [List.dropWhile_cons_of_pos (by rw [ordS.rf]; rfl)]
  cases t with
  | nil => rfl
  | cons q t => rw [List.dropWhile_cons_of_neg (by rw [(List.pairwise_cons.1 h).1 q (by simp)]; simp)]
theorem sortL_id : ∀ {l : List Kv}, Srt l → sortL l = l
  | [], _ => rfl
  | p :: t, h => by
    rw [sortL_bhd (p :: t) (by simp) (by simp), bhd_srt h, sortL_id (List.pairwise_cons.1 h).2]
    rfl
theorem sel2 (a b : List Kv) (k : ByteArray) : sel [a, b] k = (lk k a).or (lk k b) := by
  unfold sel
  cases h : lk k a <;> cases h' : lk k b <;> simp [h, h']
theorem sel3 (a b c : List Kv) (k : ByteArray) : sel [a, b, c] k = ((lk k a).or (lk k b)).or (lk k c) := by
  unfold sel
  cases h : lk k a <;> cases h' : lk k b <;> cases h'' : lk k c <;> simp [h, h', h'']
theorem merge3 {W : World} {x y z : Value} {a b c : List Kv} {g cap : Nat} (hx : Itc W x a) (hy : Itc W y b) (hz : Itc W z c) (c0 : W.cell? ⟨g, 0, none⟩ = some x) (c1 : W.cell? ⟨g, 1, none⟩ = some y) (c2 : W.cell? ⟨g, 2, none⟩ = some z) (hb : a.length + b.length + c.length ≤ 1048576) :
    Calls Try.prog 33 #[.slice (some ⟨g, 0, none⟩) 3 cap] W fun e w' => ∃ u, e = .returned u ∧ ∃ M, ItS W.heap.size w' u M ∧ Srt M ∧ (∀ k, lk k M = sel [sortL a, sortL b, sortL c] k) ∧ M.length ≤ a.length + b.length + c.length ∧ Same W w' := by
  have h := merge_any (Ls := [a, b, c]) (vs := [x, y, z]) (la := some ⟨g, 0, none⟩) (lc := cap) (w := W) rfl (fun j hj => ⟨g, 0, rfl, by
    rw [Nat.zero_add]
    match j, hj with
    | 0, _ => exact c0
    | 1, _ => exact c1
    | 2, _ => exact c2⟩) (fun j hj => match j, hj with
    | 0, _ => hx
    | 1, _ => hy
    | 2, _ => hz) (by simp) (by simp only [List.flatten_cons, List.flatten_nil, List.length_append, List.length_nil]; omega)
  refine h.mono ?_
  rintro e w' ⟨u, rfl, M, h1, h2, h3, h4, h5⟩
  exact ⟨u, rfl, M, h1, h2, h3, by simp only [List.flatten_cons, List.flatten_nil, List.length_append, List.length_nil] at h4; omega, h5⟩
theorem merge2 {W : World} {x y : Value} {a b : List Kv} {g cap : Nat} (hx : Itc W x a) (hy : Itc W y b) (c0 : W.cell? ⟨g, 0, none⟩ = some x) (c1 : W.cell? ⟨g, 1, none⟩ = some y) (hb : a.length + b.length ≤ 4194304) :
    Calls Try.prog 33 #[.slice (some ⟨g, 0, none⟩) 2 cap] W fun e w' => ∃ u, e = .returned u ∧ ∃ M, ItS W.heap.size w' u M ∧ Srt M ∧ (∀ k, lk k M = sel [sortL a, sortL b] k) ∧ M.length ≤ a.length + b.length ∧ Same W w' := by
  have h := merge_any (Ls := [a, b]) (vs := [x, y]) (la := some ⟨g, 0, none⟩) (lc := cap) (w := W) rfl (fun j hj => ⟨g, 0, rfl, by
    rw [Nat.zero_add]
    match j, hj with
    | 0, _ => exact c0
    | 1, _ => exact c1⟩) (fun j hj => match j, hj with
    | 0, _ => hx
    | 1, _ => hy) (by simp) (by simp only [List.flatten_cons, List.flatten_nil, List.length_append, List.length_nil]; omega)
  refine h.mono ?_
  rintro e w' ⟨u, rfl, M, h1, h2, h3, h4, h5⟩
  exact ⟨u, rfl, M, h1, h2, h3, by simp only [List.flatten_cons, List.flatten_nil, List.length_append, List.length_nil] at h4; omega, h5⟩
set_option maxHeartbeats 1000000 in
set_option maxRecDepth 100000 in
theorem merged_walk (va : Value) (a : List Kv) (vb : Value) (b : List Kv) (vc : Value) (c : List Kv) (w : World) (ha : Its w va a) (hb : Its w vb b) (hc : Its w vc c) (hbk : a.length + b.length + c.length ≤ 1048576) :
    Calls Try.prog 8 #[va, vb, vc] w fun e w' => e = .returned (.bool true) ∧ Same w w' := by
  have HA := hidden (fun W (kk : Same w W) => items_law (ha.same kk) (by omega))
  have HB := hidden (fun W (kk : Same w W) => items_law (hb.same kk) (by omega))
  have HC := hidden (fun W (kk : Same w W) => items_law (hc.same kk) (by omega))
  have HBK := hidden hbk
  have t1 : True := trivial
  have t2 : True := trivial
  have t3 : True := trivial
  have t4 : True := trivial
  have t5 : True := trivial
  have t6 : True := trivial
  have t7 : True := trivial
  have t8 : True := trivial
  have t9 : True := trivial
  clear ha hb hc hbk
  go_enter Try.func8, Try.ntmps8
  go_wp2_with (first
    | (go_at_call 12; go_must (refine (awake_any _).mono ?_; rintro e w1 ⟨rfl, k1⟩; have K1 := hidden k1; clear k1))
    | (go_at_call 32; have _t := t1; go_must (refine (HA.out _ K1.out).mono ?_; rintro e w2 ⟨u2, rfl, i2, k2⟩; obtain ⟨p2, c2, rfl, -, -⟩ := id i2.itc; have X2 := hidden i2.itc; have K2 := hidden (K1.out.trans k2); clear i2 k2 t1))
    | (go_at_call 32; have _t := t2; go_must (refine (HB.out _ K2.out).mono ?_; rintro e w3 ⟨u3, rfl, i3, k3⟩; obtain ⟨p3, c3, rfl, -, -⟩ := id i3.itc; have X3 := hidden (X2.out.same k3); have Y3 := hidden i3.itc; have K3 := hidden (K2.out.trans k3); clear i3 k3 t2))
    | (go_at_call 32; have _t := t3; go_must (refine (HC.out _ K3.out).mono ?_; rintro e w4 ⟨u4, rfl, i4, k4⟩; obtain ⟨p4, c4, rfl, -, -⟩ := id i4.itc; have X4 := hidden (X3.out.same k4); have Y4 := hidden (Y3.out.same k4); have Z4 := hidden i4.itc; have K4 := hidden (K3.out.trans k4); clear i4 k4 t3; have s5 := same_alloc w4 (.cells #[.slice p2 a.length c2, .slice p3 b.length c3, .slice p4 c.length c4] 58); have g5 := heap_alloc_new w4 (.cells #[.slice p2 a.length c2, .slice p3 b.length c3, .slice p4 c.length c4] 58); have M5 := hidden (merge3 (cap := 3) (X4.out.same s5) (Y4.out.same s5) (Z4.out.same s5) (blk_cell g5) (blk_cell g5) (blk_cell g5) HBK.out); have K5 := hidden (K4.out.trans s5); clear s5 g5))
    | (go_at_call 33; have _t := t4; go_must (refine (M5.out).mono ?_; rintro e w6 ⟨u6, rfl, A, i6, h6s, h6k, h6l, k6⟩; obtain ⟨p6, c6, rfl, -, -⟩ := id i6.itc; have I6 := hidden i6.itc; have S6 := hidden h6s; have L6 := hidden h6k; have N6 := hidden h6l; have K6 := hidden (K5.out.trans k6); clear i6 h6s h6k h6l k6 t4))
    | (go_at_call 32; have _t := t5; go_must (refine (HA.out _ K6.out).mono ?_; rintro e w7 ⟨u7, rfl, i7, k7⟩; obtain ⟨p7, c7, rfl, -, -⟩ := id i7.itc; have I7 := hidden (I6.out.same k7); have X7 := hidden i7.itc; have K7 := hidden (K6.out.trans k7); clear i7 k7 t5))
    | (go_at_call 32; have _t := t6; go_must (refine (HB.out _ K7.out).mono ?_; rintro e w8 ⟨u8, rfl, i8, k8⟩; obtain ⟨p8, c8, rfl, -, -⟩ := id i8.itc; have I8 := hidden (I7.out.same k8); have X8 := hidden (X7.out.same k8); have Y8 := hidden i8.itc; have K8 := hidden (K7.out.trans k8); clear i8 k8 t6; have s9 := same_alloc w8 (.cells #[.slice p7 a.length c7, .slice p8 b.length c8] 58); have g9 := heap_alloc_new w8 (.cells #[.slice p7 a.length c7, .slice p8 b.length c8] 58); have M9 := hidden (merge2 (cap := 2) (X8.out.same s9) (Y8.out.same s9) (blk_cell g9) (blk_cell g9) (by have := HBK.out; omega)); have I9 := hidden (I8.out.same s9); have K9 := hidden (K8.out.trans s9); clear s9 g9))
    | (go_at_call 33; have _t := t7; go_must (refine (M9.out).mono ?_; rintro e wA ⟨uA, rfl, B, iA, hAs, hAk, hAl, kA⟩; obtain ⟨pA, cA, rfl, -, -⟩ := id iA.itc; have IA := hidden (I9.out.same kA); have PA := hidden iA.itc; have SA := hidden hAs; have LA := hidden hAk; have NA := hidden hAl; have KA := hidden (K9.out.trans kA); clear iA hAs hAk hAl kA t7))
    | (go_at_call 32; go_must (refine (HC.out _ KA.out).mono ?_; rintro e wB ⟨uB, rfl, iB, kB⟩; obtain ⟨pB, cB, rfl, -, -⟩ := id iB.itc; have IB := hidden (IA.out.same kB); have PB := hidden (PA.out.same kB); have ZB := hidden iB.itc; have KB := hidden (KA.out.trans kB); clear iB kB; have sC := same_alloc wB (.cells #[.slice pA B.length cA, .slice pB c.length cB] 58); have gC := heap_alloc_new wB (.cells #[.slice pA B.length cA, .slice pB c.length cB] 58); have MC := hidden (merge2 (cap := 2) (PB.out.same sC) (ZB.out.same sC) (blk_cell gC) (blk_cell gC) (by have := HBK.out; have := NA.out; omega)); have IC := hidden (IB.out.same sC); have KC := hidden (KB.out.trans sC); clear sC gC))
    | (go_at_call 33; have _t := t8; go_must (refine (MC.out).mono ?_; rintro e wD ⟨uD, rfl, Pt, iD, hDs, hDk, hDl, kD⟩; obtain ⟨pD, cD, rfl, -, -⟩ := id iD.itc; obtain rfl : A = Pt := srt_ext S6.out hDs (fun k => by rw [hDk, L6.out, sel2, sel3, sortL_id SA.out, LA.out, sel2]); have ID := hidden (IC.out.same kD); have QD := hidden iD.itc; have KD := hidden (KC.out.trans kD); clear iD hDs hDk hDl kD t8; have sE := same_alloc wD (.cells #[.slice p6 A.length c6, .slice p6 A.length c6] 58); have gE := heap_alloc_new wD (.cells #[.slice p6 A.length c6, .slice p6 A.length c6] 58); have ME := hidden (merge2 (cap := 2) (ID.out.same sE) (ID.out.same sE) (blk_cell gE) (blk_cell gE) (by have := HBK.out; have := N6.out; omega)); have IE := hidden (ID.out.same sE); have QE := hidden (QD.out.same sE); have KE := hidden (KD.out.trans sE); clear sE gE)))
  refine (ME.out).mono ?_
  rintro e wF ⟨uF, rfl, Ag, iF, hFs, hFk, hFl, kF⟩
  obtain ⟨pF, cF, rfl, -, -⟩ := id iF.itc
  obtain rfl : A = Ag := srt_ext S6.out hFs (fun k => by rw [hFk, sel2, sortL_id S6.out]; cases lk k A <;> rfl)
  have HI : Hid (∀ W, Same wF W → Itc W (.slice p6 A.length c6) A) := fun W kk => (IE.out.same kF).same kk
  have HQ : Hid (∀ W, Same wF W → Itc W (.slice pD A.length cD) A) := fun W kk => (QE.out.same kF).same kk
  have HF : Hid (∀ W, Same wF W → Itc W (.slice pF A.length cF) A) := fun W kk => iF.itc.same kk
  have KF := hidden (KE.out.trans kF)
  have HNB : Hid (A.length ≤ 1048576) := Nat.le_trans N6.out HBK.out
  clear iF hFs hFk hFl kF HA HB HC K1 X2 K2 X3 Y3 K3 X4 Y4 Z4 K4 M5 K5 I6 L6 N6 K6 I7 X7 K7 I8 X8 Y8 K8 M9 I9 K9 IA PA SA LA NA KA IB PB ZB KB MC IC KC ID QD KD ME IE QE KE
  obtain ⟨n, hn⟩ : ∃ n, A.length = n := ⟨_, rfl⟩
  have HN := hidden hn
  rw [hn] at HI HQ HF HNB ⊢
  have hnb := HNB.out
  clear hn
  go_wp2
  go_loopw [49] (fun iv wr => ∃ (i : Nat), i ≤ n ∧ iv = .int .i64 i ∧ Same wF wr) (fun iv wr => n - (intOf iv).toNat)
  case atStart => exact ⟨0, Nat.zero_le _, rfl, Kept.refl _ _⟩
  case round =>
    obtain ⟨i, hi, rfl, hK⟩ := hrel
    have HK := hidden hK
    by_cases h1 : i < n
    · have hil : i < A.length := by rw [HN.out]; exact h1
      obtain ⟨a6, z6, e6, -, hb6⟩ := HI.out wr hK
      obtain ⟨aD, zD, eD, -, hbD⟩ := HQ.out wr hK
      obtain ⟨aF, zF, eF, -, hbF⟩ := HF.out wr hK
      obtain ⟨b6, o6, rfl, h6⟩ := hb6 (by omega)
      obtain ⟨bD, oD, rfl, hD⟩ := hbD (by omega)
      obtain ⟨bF, oF, rfl, hF⟩ := hbF (by omega)
      simp only [Value.slice.injEq] at e6 eD eF
      obtain ⟨rfl, -, rfl⟩ := e6
      obtain ⟨rfl, -, rfl⟩ := eD
      obtain ⟨rfl, -, rfl⟩ := eF
      obtain ⟨x0, x1⟩ := h6 i hil
      obtain ⟨y0, y1⟩ := hD i hil
      obtain ⟨v0, v1⟩ := hF i hil
      obtain ⟨⟨k, z⟩, hkz⟩ : ∃ e, A[i] = e := ⟨_, rfl⟩
      rw [hkz] at x0 x1 y0 y1 v0 v1
      have q1 : (i : Int) < (n : Int) := by omega
      have q0 : (0 : Int) ≤ (i : Int) := Int.natCast_nonneg _
      by_cases h0 : i = 0
      · subst h0
        have q2 : ¬ (0 : Int) < ((0 : Nat) : Int) := by omega
        have q3 : decide ((0 : Int) < ((0 : Nat) : Int)) = false := by simp
        simp only [Nat.zero_mul, Nat.add_zero] at x0 x1 y0 y1 v0 v1
        clear h6 hD hF hkz hb6 hbD hbF hK
        go_wp2
        go_quiet (fail)
        go_wp2
        go_roundw
        case rel => exact ⟨1, by omega, by go_num, HK.out.drewN _⟩
        case measure => simp [intOf]; omega
      · obtain ⟨m, hm⟩ : ∃ m, m = i - 1 := ⟨_, rfl⟩
        have hmi : (i : Int) - 1 = (m : Int) := by omega
        have hml : m < A.length := by omega
        obtain ⟨s0, -⟩ := h6 m hml
        obtain ⟨kp, hkp⟩ : ∃ e, A[m].1 = e := ⟨_, rfl⟩
        have hlt : ltS kp k = true := by
          have h9 := List.pairwise_iff_getElem.1 S6.out m i hml hil (by omega)
          rw [hkz, hkp] at h9
          exact h9
        have hbl : Op.bytesLess kp.toList k.toList = true := by rw [bytesLess_eq]; exact hlt
        rw [hkp] at s0
        have q2 : (0 : Int) < (i : Int) := by omega
        have q3 : decide ((0 : Int) < (i : Int)) = true := by simpa using q2
        have q6 : 0 < i := by omega
        have q7 : decide (0 < i) = true := by simpa using q6
        have q4 : (m : Int) < (n : Int) := by omega
        have q5 : (0 : Int) ≤ (m : Int) := Int.natCast_nonneg _
        clear h6 hD hF hkz hkp hlt hm hb6 hbD hbF hK
        go_wp2
        go_quiet (fail)
        go_wp2
        go_roundw
        case rel => exact ⟨i + 1, by omega, by go_num, HK.out.drewN _⟩
        case measure => simp [intOf]; omega
    · obtain rfl : i = n := by omega
      have q1 : ¬ (i : Int) < (i : Int) := by omega
      go_wp2
      go_returns
      exact ⟨rfl, KF.out.trans HK.out⟩
end Go.Proofs.Ytelngbkbdihdnaa
