/-
  NodeEncodes (P9.1, P9.2, P9.5): whatever the size and the node: Encode, Check and Size of a copy tell what the document's tell of the node, and the copy stays as it was; where there are bytes, Decode of them gives the node back: the law's call returns true and leaves its arguments as they were.
  Condition: the table crcSteps holds what the program's text lays (the card ties it).
-/
import Derived.Test.YtpjgghalnkfdkaaDoorNE18
import Derived.Test.YtpjgghalnkfdkaaDoorN59
namespace Go.Proofs.YtpjgghalnkfdkaaDoor
open Go.RowKit
set_option linter.unusedVariables false
set_option linter.unusedSimpArgs false
theorem sizes_ok {n : Nd} (hF : n.Fine) : n.base + n.pre n.keys.length = n.base + n.pre n.keys.length := rfl
set_option maxHeartbeats 4000000 in
set_option maxRecDepth 100000 in
theorem encodes_yes (n : Nd) (a1 a2 a3 : Option Addr) (c1 c2 c3 : Nat) (size : Int) (w : World) (r1 : Row w (.slice a1 n.keys.length c1) (TS n.keys)) (r2 : Row w (.slice a2 n.vals.length c2) (TS n.vals)) (r3 : Row w (.slice a3 n.kids.length c3) (IS n.kids)) (h1 : n.keys.length ≤ 8796093021952) (h2 : n.vals.length ≤ 8796093021952) (h3 : n.kids.length ≤ 17592186043904) (hT : Tab w) (hc : n.chk = 0) (he : n.encE size = 0) :
    Calls Tryd.prog 3 #[.int .i64 size, .agg #[.bool n.leaf, .slice a1 n.keys.length c1, .slice a2 n.vals.length c2, .slice a3 n.kids.length c3]] w fun e w' => e = .returned (.bool true) ∧ Same w w' := by
  have hb : n.Bd := ⟨by omega, by omega, by omega⟩
  have HT := hidden hT
  have HCp := hidden (fun W (k : Same w W) => copy_any n a1 a2 a3 _ c1 _ c2 _ c3 W (r1.same k) (r2.same k) (r3.same k) (by omega) (by omega) (by omega))
  have HEn := hidden (fun W (k : Same w W) p1 p2 p3 d1 d2 d3 (q1 : Row W (.slice p1 n.keys.length d1) (TS n.keys)) (q2 : Row W (.slice p2 n.vals.length d2) (TS n.vals)) (q3 : Row W (.slice p3 n.kids.length d3) (IS n.kids)) => encode_any n p1 p2 p3 _ d1 _ d2 _ d3 size W q1 q2 q3 hb (by omega) (hT.same k))
  have HRE := hidden (fun W (k : Same w W) => refEncode_any n a1 a2 a3 _ c1 _ c2 _ c3 size W (r1.same k) (r2.same k) (r3.same k) hb (by omega))
  have HCk := hidden (fun W p1 p2 p3 d1 d2 d3 (q1 : Row W (.slice p1 n.keys.length d1) (TS n.keys)) (q2 : Row W (.slice p2 n.vals.length d2) (TS n.vals)) (q3 : Row W (.slice p3 n.kids.length d3) (IS n.kids)) => check_any n p1 p2 p3 _ d1 _ d2 _ d3 W q1 q2 q3 hb)
  have HRC := hidden (fun W (k : Same w W) => refCheck_any n a1 a2 a3 _ c1 _ c2 _ c3 W (r1.same k) (r2.same k) (r3.same k) hb)
  have HSm := hidden (fun (W : World) (x y : Value) (q : NdR W x n) (p : NdR W y n) => same_ndr _ x y W q p hb)
  have HN0 := hidden (show NdR w (.agg #[.bool n.leaf, .slice a1 n.keys.length c1, .slice a2 n.vals.length c2, .slice a3 n.kids.length c3]) n from ⟨a1, a2, a3, c1, c2, c3, rfl, r1, r2, r3⟩)
  have hF := chk_fine hc
  have HSz := hidden (fun W (x : Value) (q : NdR W x n) => nsize_any n x W q hF hb (by omega))
  have HRS := hidden (fun W (k : Same w W) => refSize_any n a1 a2 a3 _ c1 _ c2 _ c3 W (r1.same k) (r2.same k) (r3.same k) hF (by omega))
  rw [hc] at HCk HRC
  have HDc : Hid (∀ W u (q : Bt W u (n.encB size)) (k : Same w W), Calls Tryd.prog 18 #[.int .i64 size, u] W fun e w' => ∃ b1 b2 b3 e1 e2 e3, e = .returned (.tuple #[.agg #[.bool n.leaf, .slice b1 n.keys.length e1, .slice b2 n.vals.length e2, .slice b3 n.kids.length e3], .int .i64 0]) ∧ NdR w' (.agg #[.bool n.leaf, .slice b1 n.keys.length e1, .slice b2 n.vals.length e2, .slice b3 n.kids.length e3]) n ∧ Same W w') := hidden (fun W u q k => by
    obtain ⟨hj, hlen, hn⟩ := enc_isN he
    have hd := isN_dec hj hlen hn
    refine (decode_any size _ u W q (hT.same k)).mono ?_
    rintro e w' ⟨x, rfl, hx⟩
    obtain ⟨y, rfl, h4, h5⟩ := hx.out
    rw [hd] at h4
    have h6 := h4
    obtain ⟨b1, b2, b3, e1, e2, e3, rfl, _, _, _⟩ := h6.ex
    exact ⟨b1, b2, b3, e1, e2, e3, by rw [hd], h4, h5⟩)
  have hLen : (n.encB size).length ≤ 140737488355328 := by
    by_cases h0 : n.encE size = 0
    · have hl := (enc_isN h0).2.1
      have hj := (enc_isN h0).1.2.1
      omega
    · have : n.encB size = [] := by unfold Nd.encB; rw [if_neg h0]
      rw [this]
      exact Nat.zero_le _
  have HSB := hidden (fun W x y (q : Bt W x (n.encB size)) (p : Bt W y (n.encB size)) => sameB_any x y _ _ W q p hLen hLen)
  have hds : decide (n.encB size = n.encB size) = true := decide_eq_true rfl
  rw [hds] at HSB
  have HEQ : Hid (∀ W u W', EnQ n size W u W' → ∃ v, u = .tuple #[v, .int .i64 0] ∧ Bt W' v (n.encB size) ∧ Same W W') := hidden (fun W u W' h => by
    obtain ⟨v, h4, h5, h6⟩ := h.out
    exact ⟨v, by rw [h4, he], h5, h6⟩)
  generalize n.encB size = EB at *
  clear hds hLen hb hT r1 r2 r3 h1 h2 h3 hF hc he
  have K0 := hidden (same_alloc w (.cells #[.bool n.leaf, .slice a1 n.keys.length c1, .slice a2 n.vals.length c2, .slice a3 n.kids.length c3] 25))
  have N0 := hidden (blk_new w (.cells #[.bool n.leaf, .slice a1 n.keys.length c1, .slice a2 n.vals.length c2, .slice a3 n.kids.length c3] 25))
  obtain ⟨x0, x1, x2, x3⟩ := cells4 N0.out
  go_enter Tryd.func3, Tryd.ntmps3
  go_wp2_with (first
    | (go_at_call 8; refine (HCp.out _ K0.out).mono ?_; rintro e w2 ⟨u, rfl, hu, k2⟩; obtain ⟨p1, p2, p3, d1, d2, d3, rfl, o1, o2, o3, _⟩ := hu.out; clear hu; have Q1 := hidden ((Row.own o1).same (same_alloc w2 (.cells #[.bool n.leaf, .slice p1 n.keys.length d1, .slice p2 n.vals.length d2, .slice p3 n.kids.length d3] 25))); have Q2 := hidden ((Row.own o2).same (same_alloc w2 (.cells #[.bool n.leaf, .slice p1 n.keys.length d1, .slice p2 n.vals.length d2, .slice p3 n.kids.length d3] 25))); have Q3 := hidden ((Row.own o3).same (same_alloc w2 (.cells #[.bool n.leaf, .slice p1 n.keys.length d1, .slice p2 n.vals.length d2, .slice p3 n.kids.length d3] 25))); have k2' := k2.alloc (.cells #[.bool n.leaf, .slice p1 n.keys.length d1, .slice p2 n.vals.length d2, .slice p3 n.kids.length d3] 25); have K2 := hidden (K0.out.trans k2'); have N2 := hidden (blk_kept k2' (fun h => h) N0.out); have B2 := hidden (blk_new w2 (.cells #[.bool n.leaf, .slice p1 n.keys.length d1, .slice p2 n.vals.length d2, .slice p3 n.kids.length d3] 25)); obtain ⟨y0, y1, y2, y3⟩ := cells4 B2.out; obtain ⟨g5, hg5⟩ : ∃ g, g = w2.heap.size := ⟨_, rfl⟩; clear o1 o2 o3 k2 k2' x0 x1 x2 x3)
    | (go_at_call 9; refine (HEn.out _ K2.out _ _ _ _ _ _ Q1.out Q2.out Q3.out).mono ?_; rintro e w3 ⟨u, rfl, hu⟩; obtain ⟨v1, rfl, hv, k3⟩ := HEQ.out _ _ _ hu; clear hu; have V3 := hidden hv; have K3 := hidden (K2.out.trans k3); have K23 := hidden k3; have N3 := hidden (blk_kept k3 (fun h => h) N2.out); have B3 := hidden (blk_kept k3 (fun h => h) B2.out); obtain ⟨x0, x1, x2, x3⟩ := cells4 N3.out; clear hv k3)
    | (go_at_call 10; refine (HRE.out _ K3.out).mono ?_; rintro e w4 ⟨u, rfl, hu⟩; obtain ⟨v2, rfl, hv, k4⟩ := HEQ.out _ _ _ hu; clear hu; have U4 := hidden hv; have V4 := hidden (V3.out.same k4); have K4 := hidden (K3.out.trans k4); have K24 := hidden (K23.out.trans k4); have N4 := hidden (blk_kept k4 (fun h => h) N3.out); have B4 := hidden (blk_kept k4 (fun h => h) B3.out); clear hv k4))
  obtain ⟨ao1, cp1, rfl, _⟩ := V4.out.form
  obtain ⟨ao2, cp2, rfl, _⟩ := U4.out.form
  have Z1 := hidden (Q1.out.same K24.out)
  have Z2 := hidden (Q2.out.same K24.out)
  have Z3 := hidden (Q3.out.same K24.out)
  have HNO := hidden (show NdR w4 (.agg #[.bool n.leaf, .slice p1 n.keys.length d1, .slice p2 n.vals.length d2, .slice p3 n.kids.length d3]) n from ⟨p1, p2, p3, d1, d2, d3, rfl, Z1.out, Z2.out, Z3.out⟩)
  rw [← hg5] at B4 ⊢
  clear hg5
  have l0 : ∀ V : Later w4, V.world.cell? ⟨w.heap.size, 0, none⟩ = some (.bool n.leaf) := fun V => blk_cell (blk_kept V.kept (fun h => h) N4.out)
  have l1 : ∀ V : Later w4, V.world.cell? ⟨w.heap.size, 1, none⟩ = some (.slice a1 n.keys.length c1) := fun V => blk_cell (blk_kept V.kept (fun h => h) N4.out)
  have l2 : ∀ V : Later w4, V.world.cell? ⟨w.heap.size, 2, none⟩ = some (.slice a2 n.vals.length c2) := fun V => blk_cell (blk_kept V.kept (fun h => h) N4.out)
  have l3 : ∀ V : Later w4, V.world.cell? ⟨w.heap.size, 3, none⟩ = some (.slice a3 n.kids.length c3) := fun V => blk_cell (blk_kept V.kept (fun h => h) N4.out)
  have l4 : ∀ V : Later w4, V.world.cell? ⟨g5, 0, none⟩ = some (.bool n.leaf) := fun V => blk_cell (blk_kept V.kept (fun h => h) B4.out)
  have l5 : ∀ V : Later w4, V.world.cell? ⟨g5, 1, none⟩ = some (.slice p1 n.keys.length d1) := fun V => blk_cell (blk_kept V.kept (fun h => h) B4.out)
  have l6 : ∀ V : Later w4, V.world.cell? ⟨g5, 2, none⟩ = some (.slice p2 n.vals.length d2) := fun V => blk_cell (blk_kept V.kept (fun h => h) B4.out)
  have l7 : ∀ V : Later w4, V.world.cell? ⟨g5, 3, none⟩ = some (.slice p3 n.kids.length d3) := fun V => blk_cell (blk_kept V.kept (fun h => h) B4.out)
  clear x0 x1 x2 x3 y0 y1 y2 y3
  refine region_later (by kernel_rfl) (by kernel_rfl) ?_
  repeat (go_big_quiet_step ((first | (go_at_call 11; exact later_calls _ (lives_any _ (HT.out.same (K4.out.trans (Later.kept _))))) | (go_at_call 12; exact later_calls _ (HSB.out _ _ _ (V4.out.same (Later.kept _)) (U4.out.same (Later.kept _)))) | (go_at_call 13; exact later_calls _ (HCk.out _ _ _ _ _ _ _ (Z1.out.same (Later.kept _)) (Z2.out.same (Later.kept _)) (Z3.out.same (Later.kept _)))) | (go_at_call 14; exact later_calls _ (HRC.out _ (K4.out.trans (Later.kept _)))) | (go_at_call 15; exact later_calls _ (HSz.out _ _ (HNO.out.same (Later.kept _)))) | (go_at_call 16; exact later_calls _ (HRS.out _ (K4.out.trans (Later.kept _)))) | (go_at_call 17; exact later_calls _ (HSm.out _ _ _ (HNO.out.same (Later.kept _)) (HN0.out.same (K4.out.trans (Later.kept _))))))))
  refine wpQuiet_nil ?_
  rintro V ⟨LV, hE⟩
  have hV : Hid (Same w4 V) := hidden (by rw [hE]; exact LV.kept)
  clear hE LV l0 l1 l2 l3 l4 l5 l6 l7
  have KV := hidden (K4.out.trans hV.out)
  have NV := hidden (blk_kept hV.out (fun h => h) N4.out)
  have VV := hidden (V4.out.same hV.out)
  go_wp2_with (first
    | (go_at_call 18; refine (HDc.out _ _ VV.out KV.out).mono ?_; rintro e w5 ⟨b1, b2, b3, e1, e2, e3, rfl, hx, k5⟩; have X5 := hidden (hx.same (same_alloc w5 (.cells #[.bool n.leaf, .slice b1 n.keys.length e1, .slice b2 n.vals.length e2, .slice b3 n.kids.length e3] 25))); have k5' := k5.alloc (.cells #[.bool n.leaf, .slice b1 n.keys.length e1, .slice b2 n.vals.length e2, .slice b3 n.kids.length e3] 25); have K5 := hidden (KV.out.trans k5'); have N5 := hidden (blk_kept k5' (fun h => h) NV.out); have D5 := hidden (blk_new w5 (.cells #[.bool n.leaf, .slice b1 n.keys.length e1, .slice b2 n.vals.length e2, .slice b3 n.kids.length e3] 25)); obtain ⟨x0, x1, x2, x3⟩ := cells4 N5.out; obtain ⟨y0, y1, y2, y3⟩ := cells4 D5.out; clear hx k5 k5')
    | (go_at_call 17; refine (HSm.out _ _ _ X5.out (HN0.out.same K5.out)).mono ?_; rintro e w6 ⟨rfl, k6⟩; have K6 := hidden (K5.out.trans k6); clear k6))
  go_returns
  exact ⟨rfl, K6.out⟩
set_option maxHeartbeats 4000000 in
set_option maxRecDepth 100000 in
theorem encodes_full (n : Nd) (a1 a2 a3 : Option Addr) (c1 c2 c3 : Nat) (size : Int) (w : World) (r1 : Row w (.slice a1 n.keys.length c1) (TS n.keys)) (r2 : Row w (.slice a2 n.vals.length c2) (TS n.vals)) (r3 : Row w (.slice a3 n.kids.length c3) (IS n.kids)) (h1 : n.keys.length ≤ 8796093021952) (h2 : n.vals.length ≤ 8796093021952) (h3 : n.kids.length ≤ 17592186043904) (hT : Tab w) (hc : n.chk = 0) (en : Int) (he : n.encE size = en) (hn0 : en ≠ 0) :
    Calls Tryd.prog 3 #[.int .i64 size, .agg #[.bool n.leaf, .slice a1 n.keys.length c1, .slice a2 n.vals.length c2, .slice a3 n.kids.length c3]] w fun e w' => e = .returned (.bool true) ∧ Same w w' := by
  have hb : n.Bd := ⟨by omega, by omega, by omega⟩
  have HT := hidden hT
  have HCp := hidden (fun W (k : Same w W) => copy_any n a1 a2 a3 _ c1 _ c2 _ c3 W (r1.same k) (r2.same k) (r3.same k) (by omega) (by omega) (by omega))
  have HEn := hidden (fun W (k : Same w W) p1 p2 p3 d1 d2 d3 (q1 : Row W (.slice p1 n.keys.length d1) (TS n.keys)) (q2 : Row W (.slice p2 n.vals.length d2) (TS n.vals)) (q3 : Row W (.slice p3 n.kids.length d3) (IS n.kids)) => encode_any n p1 p2 p3 _ d1 _ d2 _ d3 size W q1 q2 q3 hb (by omega) (hT.same k))
  have HRE := hidden (fun W (k : Same w W) => refEncode_any n a1 a2 a3 _ c1 _ c2 _ c3 size W (r1.same k) (r2.same k) (r3.same k) hb (by omega))
  have HCk := hidden (fun W p1 p2 p3 d1 d2 d3 (q1 : Row W (.slice p1 n.keys.length d1) (TS n.keys)) (q2 : Row W (.slice p2 n.vals.length d2) (TS n.vals)) (q3 : Row W (.slice p3 n.kids.length d3) (IS n.kids)) => check_any n p1 p2 p3 _ d1 _ d2 _ d3 W q1 q2 q3 hb)
  have HRC := hidden (fun W (k : Same w W) => refCheck_any n a1 a2 a3 _ c1 _ c2 _ c3 W (r1.same k) (r2.same k) (r3.same k) hb)
  have HSm := hidden (fun (W : World) (x y : Value) (q : NdR W x n) (p : NdR W y n) => same_ndr _ x y W q p hb)
  have HN0 := hidden (show NdR w (.agg #[.bool n.leaf, .slice a1 n.keys.length c1, .slice a2 n.vals.length c2, .slice a3 n.kids.length c3]) n from ⟨a1, a2, a3, c1, c2, c3, rfl, r1, r2, r3⟩)
  have hF := chk_fine hc
  have HSz := hidden (fun W (x : Value) (q : NdR W x n) => nsize_any n x W q hF hb (by omega))
  have HRS := hidden (fun W (k : Same w W) => refSize_any n a1 a2 a3 _ c1 _ c2 _ c3 W (r1.same k) (r2.same k) (r3.same k) hF (by omega))
  rw [hc] at HCk HRC
  have hLen : (n.encB size).length ≤ 140737488355328 := by
    by_cases h0 : n.encE size = 0
    · have hl := (enc_isN h0).2.1
      have hj := (enc_isN h0).1.2.1
      omega
    · have : n.encB size = [] := by unfold Nd.encB; rw [if_neg h0]
      rw [this]
      exact Nat.zero_le _
  have HSB := hidden (fun W x y (q : Bt W x (n.encB size)) (p : Bt W y (n.encB size)) => sameB_any x y _ _ W q p hLen hLen)
  have hds : decide (n.encB size = n.encB size) = true := decide_eq_true rfl
  rw [hds] at HSB
  have HEQ : Hid (∀ W u W', EnQ n size W u W' → ∃ v, u = .tuple #[v, .int .i64 en] ∧ Bt W' v (n.encB size) ∧ Same W W') := hidden (fun W u W' h => by
    obtain ⟨v, h4, h5, h6⟩ := h.out
    exact ⟨v, by rw [h4, he], h5, h6⟩)
  have hy1 : (en == 0) = false := beq_eq_false_iff_ne.2 hn0
  have hy2 : (en != 0) = true := by rw [bne_iff_ne]; exact hn0
  generalize n.encB size = EB at *
  clear hds hLen hb hT r1 r2 r3 h1 h2 h3 hF hc he
  have K0 := hidden (same_alloc w (.cells #[.bool n.leaf, .slice a1 n.keys.length c1, .slice a2 n.vals.length c2, .slice a3 n.kids.length c3] 25))
  have N0 := hidden (blk_new w (.cells #[.bool n.leaf, .slice a1 n.keys.length c1, .slice a2 n.vals.length c2, .slice a3 n.kids.length c3] 25))
  obtain ⟨x0, x1, x2, x3⟩ := cells4 N0.out
  go_enter Tryd.func3, Tryd.ntmps3
  go_wp2_with (first
    | (go_at_call 8; refine (HCp.out _ K0.out).mono ?_; rintro e w2 ⟨u, rfl, hu, k2⟩; obtain ⟨p1, p2, p3, d1, d2, d3, rfl, o1, o2, o3, _⟩ := hu.out; clear hu; have Q1 := hidden ((Row.own o1).same (same_alloc w2 (.cells #[.bool n.leaf, .slice p1 n.keys.length d1, .slice p2 n.vals.length d2, .slice p3 n.kids.length d3] 25))); have Q2 := hidden ((Row.own o2).same (same_alloc w2 (.cells #[.bool n.leaf, .slice p1 n.keys.length d1, .slice p2 n.vals.length d2, .slice p3 n.kids.length d3] 25))); have Q3 := hidden ((Row.own o3).same (same_alloc w2 (.cells #[.bool n.leaf, .slice p1 n.keys.length d1, .slice p2 n.vals.length d2, .slice p3 n.kids.length d3] 25))); have k2' := k2.alloc (.cells #[.bool n.leaf, .slice p1 n.keys.length d1, .slice p2 n.vals.length d2, .slice p3 n.kids.length d3] 25); have K2 := hidden (K0.out.trans k2'); have N2 := hidden (blk_kept k2' (fun h => h) N0.out); have B2 := hidden (blk_new w2 (.cells #[.bool n.leaf, .slice p1 n.keys.length d1, .slice p2 n.vals.length d2, .slice p3 n.kids.length d3] 25)); obtain ⟨y0, y1, y2, y3⟩ := cells4 B2.out; obtain ⟨g5, hg5⟩ : ∃ g, g = w2.heap.size := ⟨_, rfl⟩; clear o1 o2 o3 k2 k2' x0 x1 x2 x3)
    | (go_at_call 9; refine (HEn.out _ K2.out _ _ _ _ _ _ Q1.out Q2.out Q3.out).mono ?_; rintro e w3 ⟨u, rfl, hu⟩; obtain ⟨v1, rfl, hv, k3⟩ := HEQ.out _ _ _ hu; clear hu; have V3 := hidden hv; have K3 := hidden (K2.out.trans k3); have K23 := hidden k3; have N3 := hidden (blk_kept k3 (fun h => h) N2.out); have B3 := hidden (blk_kept k3 (fun h => h) B2.out); obtain ⟨x0, x1, x2, x3⟩ := cells4 N3.out; clear hv k3)
    | (go_at_call 10; refine (HRE.out _ K3.out).mono ?_; rintro e w4 ⟨u, rfl, hu⟩; obtain ⟨v2, rfl, hv, k4⟩ := HEQ.out _ _ _ hu; clear hu; have U4 := hidden hv; have V4 := hidden (V3.out.same k4); have K4 := hidden (K3.out.trans k4); have K24 := hidden (K23.out.trans k4); have N4 := hidden (blk_kept k4 (fun h => h) N3.out); have B4 := hidden (blk_kept k4 (fun h => h) B3.out); clear hv k4))
  obtain ⟨ao1, cp1, rfl, _⟩ := V4.out.form
  obtain ⟨ao2, cp2, rfl, _⟩ := U4.out.form
  have Z1 := hidden (Q1.out.same K24.out)
  have Z2 := hidden (Q2.out.same K24.out)
  have Z3 := hidden (Q3.out.same K24.out)
  have HNO := hidden (show NdR w4 (.agg #[.bool n.leaf, .slice p1 n.keys.length d1, .slice p2 n.vals.length d2, .slice p3 n.kids.length d3]) n from ⟨p1, p2, p3, d1, d2, d3, rfl, Z1.out, Z2.out, Z3.out⟩)
  rw [← hg5] at B4 ⊢
  clear hg5
  have l0 : ∀ V : Later w4, V.world.cell? ⟨w.heap.size, 0, none⟩ = some (.bool n.leaf) := fun V => blk_cell (blk_kept V.kept (fun h => h) N4.out)
  have l1 : ∀ V : Later w4, V.world.cell? ⟨w.heap.size, 1, none⟩ = some (.slice a1 n.keys.length c1) := fun V => blk_cell (blk_kept V.kept (fun h => h) N4.out)
  have l2 : ∀ V : Later w4, V.world.cell? ⟨w.heap.size, 2, none⟩ = some (.slice a2 n.vals.length c2) := fun V => blk_cell (blk_kept V.kept (fun h => h) N4.out)
  have l3 : ∀ V : Later w4, V.world.cell? ⟨w.heap.size, 3, none⟩ = some (.slice a3 n.kids.length c3) := fun V => blk_cell (blk_kept V.kept (fun h => h) N4.out)
  have l4 : ∀ V : Later w4, V.world.cell? ⟨g5, 0, none⟩ = some (.bool n.leaf) := fun V => blk_cell (blk_kept V.kept (fun h => h) B4.out)
  have l5 : ∀ V : Later w4, V.world.cell? ⟨g5, 1, none⟩ = some (.slice p1 n.keys.length d1) := fun V => blk_cell (blk_kept V.kept (fun h => h) B4.out)
  have l6 : ∀ V : Later w4, V.world.cell? ⟨g5, 2, none⟩ = some (.slice p2 n.vals.length d2) := fun V => blk_cell (blk_kept V.kept (fun h => h) B4.out)
  have l7 : ∀ V : Later w4, V.world.cell? ⟨g5, 3, none⟩ = some (.slice p3 n.kids.length d3) := fun V => blk_cell (blk_kept V.kept (fun h => h) B4.out)
  clear x0 x1 x2 x3 y0 y1 y2 y3
  refine region_later (by kernel_rfl) (by kernel_rfl) ?_
  repeat (go_big_quiet_step ((first | (go_at_call 11; exact later_calls _ (lives_any _ (HT.out.same (K4.out.trans (Later.kept _))))) | (go_at_call 12; exact later_calls _ (HSB.out _ _ _ (V4.out.same (Later.kept _)) (U4.out.same (Later.kept _)))) | (go_at_call 13; exact later_calls _ (HCk.out _ _ _ _ _ _ _ (Z1.out.same (Later.kept _)) (Z2.out.same (Later.kept _)) (Z3.out.same (Later.kept _)))) | (go_at_call 14; exact later_calls _ (HRC.out _ (K4.out.trans (Later.kept _)))) | (go_at_call 15; exact later_calls _ (HSz.out _ _ (HNO.out.same (Later.kept _)))) | (go_at_call 16; exact later_calls _ (HRS.out _ (K4.out.trans (Later.kept _)))) | (go_at_call 17; exact later_calls _ (HSm.out _ _ _ (HNO.out.same (Later.kept _)) (HN0.out.same (K4.out.trans (Later.kept _))))))))
  refine wpQuiet_nil ?_
  rintro V ⟨LV, hE⟩
  have hV : Hid (Same w4 V) := hidden (by rw [hE]; exact LV.kept)
  clear hE LV l0 l1 l2 l3 l4 l5 l6 l7
  have KV := hidden (K4.out.trans hV.out)
  have NV := hidden (blk_kept hV.out (fun h => h) N4.out)
  have VV := hidden (V4.out.same hV.out)
  go_wp2
  go_returns
  exact ⟨rfl, KV.out⟩
set_option maxHeartbeats 4000000 in
set_option maxRecDepth 100000 in
theorem encodes_bad (n : Nd) (a1 a2 a3 : Option Addr) (c1 c2 c3 : Nat) (size : Int) (w : World) (r1 : Row w (.slice a1 n.keys.length c1) (TS n.keys)) (r2 : Row w (.slice a2 n.vals.length c2) (TS n.vals)) (r3 : Row w (.slice a3 n.kids.length c3) (IS n.kids)) (h1 : n.keys.length ≤ 8796093021952) (h2 : n.vals.length ≤ 8796093021952) (h3 : n.kids.length ≤ 17592186043904) (hT : Tab w) (hc : n.chk ≠ 0) (en : Int) (he : n.encE size = en) (hn0 : en ≠ 0) :
    Calls Tryd.prog 3 #[.int .i64 size, .agg #[.bool n.leaf, .slice a1 n.keys.length c1, .slice a2 n.vals.length c2, .slice a3 n.kids.length c3]] w fun e w' => e = .returned (.bool true) ∧ Same w w' := by
  have hb : n.Bd := ⟨by omega, by omega, by omega⟩
  have HT := hidden hT
  have HCp := hidden (fun W (k : Same w W) => copy_any n a1 a2 a3 _ c1 _ c2 _ c3 W (r1.same k) (r2.same k) (r3.same k) (by omega) (by omega) (by omega))
  have HEn := hidden (fun W (k : Same w W) p1 p2 p3 d1 d2 d3 (q1 : Row W (.slice p1 n.keys.length d1) (TS n.keys)) (q2 : Row W (.slice p2 n.vals.length d2) (TS n.vals)) (q3 : Row W (.slice p3 n.kids.length d3) (IS n.kids)) => encode_any n p1 p2 p3 _ d1 _ d2 _ d3 size W q1 q2 q3 hb (by omega) (hT.same k))
  have HRE := hidden (fun W (k : Same w W) => refEncode_any n a1 a2 a3 _ c1 _ c2 _ c3 size W (r1.same k) (r2.same k) (r3.same k) hb (by omega))
  have HCk := hidden (fun W p1 p2 p3 d1 d2 d3 (q1 : Row W (.slice p1 n.keys.length d1) (TS n.keys)) (q2 : Row W (.slice p2 n.vals.length d2) (TS n.vals)) (q3 : Row W (.slice p3 n.kids.length d3) (IS n.kids)) => check_any n p1 p2 p3 _ d1 _ d2 _ d3 W q1 q2 q3 hb)
  have HRC := hidden (fun W (k : Same w W) => refCheck_any n a1 a2 a3 _ c1 _ c2 _ c3 W (r1.same k) (r2.same k) (r3.same k) hb)
  have HSm := hidden (fun (W : World) (x y : Value) (q : NdR W x n) (p : NdR W y n) => same_ndr _ x y W q p hb)
  have HN0 := hidden (show NdR w (.agg #[.bool n.leaf, .slice a1 n.keys.length c1, .slice a2 n.vals.length c2, .slice a3 n.kids.length c3]) n from ⟨a1, a2, a3, c1, c2, c3, rfl, r1, r2, r3⟩)
  have hLen : (n.encB size).length ≤ 140737488355328 := by
    by_cases h0 : n.encE size = 0
    · have hl := (enc_isN h0).2.1
      have hj := (enc_isN h0).1.2.1
      omega
    · have : n.encB size = [] := by unfold Nd.encB; rw [if_neg h0]
      rw [this]
      exact Nat.zero_le _
  have HSB := hidden (fun W x y (q : Bt W x (n.encB size)) (p : Bt W y (n.encB size)) => sameB_any x y _ _ W q p hLen hLen)
  have hds : decide (n.encB size = n.encB size) = true := decide_eq_true rfl
  rw [hds] at HSB
  have HEQ : Hid (∀ W u W', EnQ n size W u W' → ∃ v, u = .tuple #[v, .int .i64 en] ∧ Bt W' v (n.encB size) ∧ Same W W') := hidden (fun W u W' h => by
    obtain ⟨v, h4, h5, h6⟩ := h.out
    exact ⟨v, by rw [h4, he], h5, h6⟩)
  have hz1 : (n.chk == 0) = false := beq_eq_false_iff_ne.2 hc
  have hz2 : (n.chk != 0) = true := by rw [bne_iff_ne]; exact hc
  generalize n.chk = ck at HCk HRC hz1 hz2 hc
  have hy1 : (en == 0) = false := beq_eq_false_iff_ne.2 hn0
  have hy2 : (en != 0) = true := by rw [bne_iff_ne]; exact hn0
  generalize n.encB size = EB at *
  clear hds hLen hb hT r1 r2 r3 h1 h2 h3 he
  have K0 := hidden (same_alloc w (.cells #[.bool n.leaf, .slice a1 n.keys.length c1, .slice a2 n.vals.length c2, .slice a3 n.kids.length c3] 25))
  have N0 := hidden (blk_new w (.cells #[.bool n.leaf, .slice a1 n.keys.length c1, .slice a2 n.vals.length c2, .slice a3 n.kids.length c3] 25))
  obtain ⟨x0, x1, x2, x3⟩ := cells4 N0.out
  go_enter Tryd.func3, Tryd.ntmps3
  go_wp2_with (first
    | (go_at_call 8; refine (HCp.out _ K0.out).mono ?_; rintro e w2 ⟨u, rfl, hu, k2⟩; obtain ⟨p1, p2, p3, d1, d2, d3, rfl, o1, o2, o3, _⟩ := hu.out; clear hu; have Q1 := hidden ((Row.own o1).same (same_alloc w2 (.cells #[.bool n.leaf, .slice p1 n.keys.length d1, .slice p2 n.vals.length d2, .slice p3 n.kids.length d3] 25))); have Q2 := hidden ((Row.own o2).same (same_alloc w2 (.cells #[.bool n.leaf, .slice p1 n.keys.length d1, .slice p2 n.vals.length d2, .slice p3 n.kids.length d3] 25))); have Q3 := hidden ((Row.own o3).same (same_alloc w2 (.cells #[.bool n.leaf, .slice p1 n.keys.length d1, .slice p2 n.vals.length d2, .slice p3 n.kids.length d3] 25))); have k2' := k2.alloc (.cells #[.bool n.leaf, .slice p1 n.keys.length d1, .slice p2 n.vals.length d2, .slice p3 n.kids.length d3] 25); have K2 := hidden (K0.out.trans k2'); have N2 := hidden (blk_kept k2' (fun h => h) N0.out); have B2 := hidden (blk_new w2 (.cells #[.bool n.leaf, .slice p1 n.keys.length d1, .slice p2 n.vals.length d2, .slice p3 n.kids.length d3] 25)); obtain ⟨y0, y1, y2, y3⟩ := cells4 B2.out; obtain ⟨g5, hg5⟩ : ∃ g, g = w2.heap.size := ⟨_, rfl⟩; clear o1 o2 o3 k2 k2' x0 x1 x2 x3)
    | (go_at_call 9; refine (HEn.out _ K2.out _ _ _ _ _ _ Q1.out Q2.out Q3.out).mono ?_; rintro e w3 ⟨u, rfl, hu⟩; obtain ⟨v1, rfl, hv, k3⟩ := HEQ.out _ _ _ hu; clear hu; have V3 := hidden hv; have K3 := hidden (K2.out.trans k3); have K23 := hidden k3; have N3 := hidden (blk_kept k3 (fun h => h) N2.out); have B3 := hidden (blk_kept k3 (fun h => h) B2.out); obtain ⟨x0, x1, x2, x3⟩ := cells4 N3.out; clear hv k3)
    | (go_at_call 10; refine (HRE.out _ K3.out).mono ?_; rintro e w4 ⟨u, rfl, hu⟩; obtain ⟨v2, rfl, hv, k4⟩ := HEQ.out _ _ _ hu; clear hu; have U4 := hidden hv; have V4 := hidden (V3.out.same k4); have K4 := hidden (K3.out.trans k4); have K24 := hidden (K23.out.trans k4); have N4 := hidden (blk_kept k4 (fun h => h) N3.out); have B4 := hidden (blk_kept k4 (fun h => h) B3.out); clear hv k4))
  obtain ⟨ao1, cp1, rfl, _⟩ := V4.out.form
  obtain ⟨ao2, cp2, rfl, _⟩ := U4.out.form
  have Z1 := hidden (Q1.out.same K24.out)
  have Z2 := hidden (Q2.out.same K24.out)
  have Z3 := hidden (Q3.out.same K24.out)
  have HNO := hidden (show NdR w4 (.agg #[.bool n.leaf, .slice p1 n.keys.length d1, .slice p2 n.vals.length d2, .slice p3 n.kids.length d3]) n from ⟨p1, p2, p3, d1, d2, d3, rfl, Z1.out, Z2.out, Z3.out⟩)
  rw [← hg5] at B4 ⊢
  clear hg5
  have l0 : ∀ V : Later w4, V.world.cell? ⟨w.heap.size, 0, none⟩ = some (.bool n.leaf) := fun V => blk_cell (blk_kept V.kept (fun h => h) N4.out)
  have l1 : ∀ V : Later w4, V.world.cell? ⟨w.heap.size, 1, none⟩ = some (.slice a1 n.keys.length c1) := fun V => blk_cell (blk_kept V.kept (fun h => h) N4.out)
  have l2 : ∀ V : Later w4, V.world.cell? ⟨w.heap.size, 2, none⟩ = some (.slice a2 n.vals.length c2) := fun V => blk_cell (blk_kept V.kept (fun h => h) N4.out)
  have l3 : ∀ V : Later w4, V.world.cell? ⟨w.heap.size, 3, none⟩ = some (.slice a3 n.kids.length c3) := fun V => blk_cell (blk_kept V.kept (fun h => h) N4.out)
  have l4 : ∀ V : Later w4, V.world.cell? ⟨g5, 0, none⟩ = some (.bool n.leaf) := fun V => blk_cell (blk_kept V.kept (fun h => h) B4.out)
  have l5 : ∀ V : Later w4, V.world.cell? ⟨g5, 1, none⟩ = some (.slice p1 n.keys.length d1) := fun V => blk_cell (blk_kept V.kept (fun h => h) B4.out)
  have l6 : ∀ V : Later w4, V.world.cell? ⟨g5, 2, none⟩ = some (.slice p2 n.vals.length d2) := fun V => blk_cell (blk_kept V.kept (fun h => h) B4.out)
  have l7 : ∀ V : Later w4, V.world.cell? ⟨g5, 3, none⟩ = some (.slice p3 n.kids.length d3) := fun V => blk_cell (blk_kept V.kept (fun h => h) B4.out)
  clear x0 x1 x2 x3 y0 y1 y2 y3
  refine region_later (by kernel_rfl) (by kernel_rfl) ?_
  repeat (go_big_quiet_step ((first | (go_at_call 11; exact later_calls _ (lives_any _ (HT.out.same (K4.out.trans (Later.kept _))))) | (go_at_call 12; exact later_calls _ (HSB.out _ _ _ (V4.out.same (Later.kept _)) (U4.out.same (Later.kept _)))) | (go_at_call 13; exact later_calls _ (HCk.out _ _ _ _ _ _ _ (Z1.out.same (Later.kept _)) (Z2.out.same (Later.kept _)) (Z3.out.same (Later.kept _)))) | (go_at_call 14; exact later_calls _ (HRC.out _ (K4.out.trans (Later.kept _)))) | (go_at_call 17; exact later_calls _ (HSm.out _ _ _ (HNO.out.same (Later.kept _)) (HN0.out.same (K4.out.trans (Later.kept _))))))))
  refine wpQuiet_nil ?_
  rintro V ⟨LV, hE⟩
  have hV : Hid (Same w4 V) := hidden (by rw [hE]; exact LV.kept)
  clear hE LV l0 l1 l2 l3 l4 l5 l6 l7
  have KV := hidden (K4.out.trans hV.out)
  have NV := hidden (blk_kept hV.out (fun h => h) N4.out)
  have VV := hidden (V4.out.same hV.out)
  go_wp2
  go_returns
  exact ⟨rfl, KV.out⟩
theorem encodes_walk (size : Int) (n : Nd) (a1 a2 a3 : Option Addr) (k1 c1 k2 c2 k3 c3 : Nat) (w : World) (hs0 : -9223372036854775808 ≤ size) (hs1 : size ≤ 9223372036854775807) (r1 : Row w (.slice a1 k1 c1) (TS n.keys)) (r2 : Row w (.slice a2 k2 c2) (TS n.vals)) (r3 : Row w (.slice a3 k3 c3) (IS n.kids)) (h1 : n.keys.length ≤ 8796093021952) (h2 : n.vals.length ≤ 8796093021952) (h3 : n.kids.length ≤ 17592186043904) (hT : Tab w) :
    Calls Tryd.prog 3 #[.int .i64 size, .agg #[.bool n.leaf, .slice a1 k1 c1, .slice a2 k2 c2, .slice a3 k3 c3]] w fun e w' => e = .returned (.bool true) ∧ Same w w' := by
  obtain rfl := r1.tl
  obtain rfl := r2.tl
  obtain rfl := r3.il
  by_cases hc : n.chk = 0
  · by_cases he : n.encE size = 0
    · exact encodes_yes n a1 a2 a3 c1 c2 c3 size w r1 r2 r3 h1 h2 h3 hT hc he
    · exact encodes_full n a1 a2 a3 c1 c2 c3 size w r1 r2 r3 h1 h2 h3 hT hc _ rfl he
  · exact encodes_bad n a1 a2 a3 c1 c2 c3 size w r1 r2 r3 h1 h2 h3 hT hc _ rfl (by unfold Nd.encE; rw [if_neg hc]; exact hc)
end Go.Proofs.YtpjgghalnkfdkaaDoor
namespace Go.Proofs.YtpjgghalnkfdkaaDoor.NodeEncodes
open Go.ChangeShapes Go.WideShapes Go.ChangeAt Go.RowKit Go.Joins Go.ChangeMaps
set_option maxRecDepth 100000 in
theorem contract (H : Type) (enc : TypeId × Value → H) (W : World) (base : Nat) (args : Array Value) (ds gs : List (DataW H)) (before : List MemPlace)
    (hval : ∀ (j : Nat) t v, Tryd.f3.params[j]? = some t → args[j]? = some v → Value.okWide Tryd.prog W .any base t v)
    (hW : DataW.Whole enc Tryd.prog Tryd.f3.params.toList Rows.nodeEncodesSpec.vars false W args.toList ds gs before)
    (hsz : (DataW.weightsEach Tryd.prog (Tryd.f3.params.toList ++ (OpenSpec.ofChange Rows.nodeEncodesSpec).bare.plain.varTypes Tryd.prog) (ds ++ gs)).all (· ≤ reachBytes) = true)
    (hL : laidMetH Tryd.prog Rows.nodeEncodesRow.laid W) :
    Calls Tryd.prog 3 args W fun e W' => ∃ v, e = .returned v ∧ Rows.nodeEncodesSpec.post enc Tryd.prog Tryd.f3 false true false false W args v W' := by
  have hW' := hW
  obtain ⟨p, q, hA0, hV, rfl, hfz, hnd⟩ := hW
  have hA : DataW.TrodAll enc Tryd.prog W 0 (fun _ => true) true Tryd.f3.params.toList args.toList ds p := hA0
  rw [Tryd.params3] at hA hval hsz
  obtain ⟨v0, vs0, d0, ds0, p0, q0, hargs, rfl, rfl, h0, r0⟩ := trodAll_cons hA
  obtain ⟨v1, vs1, d1, ds1, p1, q1, rfl, rfl, rfl, h1, r1⟩ := trodAll_cons r0
  obtain ⟨rfl, rfl, rfl⟩ := trodAll_nil r1
  obtain rfl : args = #[v0, v1] := by cases args; simp_all
  obtain ⟨rfl, rfl⟩ := trodVars_none hV
  obtain ⟨size, rfl, rfl, rfl, w_size⟩ := open_int Tryd.underlying3 (hval 0 3 v0 rfl rfl) h0
  have b_size : -9223372036854775808 ≤ size ∧ size ≤ 9223372036854775807 := by simpa [Lit.wf, IntKind.min, IntKind.max, IntKind.signed, IntKind.bits] using w_size
  obtain ⟨n_n, a1_n, a2_n, a3_n, k1_n, c1_n, k2_n, c2_n, k3_n, c3_n, rfl, r1_n, r2_n, r3_n, b1_n, b2_n, b3_n⟩ := node_open (hval 1 25 v1 rfl rfl) h1 _ _ 1 hsz rfl rfl
  refine (encodes_walk size n_n a1_n a2_n a3_n k1_n c1_n k2_n c2_n k3_n c3_n W b_size.1 b_size.2 r1_n r2_n r3_n b1_n b2_n b3_n (tab_laid hL)).mono fun e W' ⟨he, hg⟩ => ?_
  subst he
  exact ⟨_, rfl, law_post laidOut (by rw [Tryd.params3]; decide +kernel) rfl hW' rfl Tryd.underlying4 ⟨rfl, rfl, rfl⟩ (hg.below (Nat.le_refl _) fun _ h => h.elim)⟩
set_option maxRecDepth 100000 in
theorem lifted (os : Os) (started : os.Started) (H : Type) (enc : TypeId × Value → H) (F : Stop.Interp) :
    ReturnsInHanded {} Tryd.checked os 3 .any ((OpenSpec.ofChange Rows.nodeEncodesSpec).preRow enc Tryd.prog Tryd.f3 Rows.nodeEncodesRow.domain false Rows.nodeEncodesRow.laid) (((OpenSpec.ofChange Rows.nodeEncodesSpec).at F).post enc Tryd.prog Tryd.f3 false true false false) := by
  refine returnsInHanded_of_row (C := Tryd.checked) (s := OpenSpec.ofChange Rows.nodeEncodesSpec) own started (by kernel_rfl) Tryd.func3
    (witness_row_at (enc := enc) (C := Tryd.checked) false ({ World.holding Tryd.prog os ⟨#[], #[], []⟩ with heap := (World.holding Tryd.prog os ⟨#[], #[], []⟩).heap.modify tabBlock fun | .cells _ t frozen => .cells (tabInts.map (Value.int .u32)).toArray t frozen | o => o }) #[.int .i64 0, .agg #[.bool false, .slice none 0 0, .slice none 0 0, .slice none 0 0]] rfl (by kernel_rfl) (by kernel_rfl) (by kernel_rfl)
      (OpenSpec.preRow_of_cond (x := ([.lit (.int .i64 0), .agg [.lit (.bool false), .nil, .nil, .nil]], [], [])) 8 (by kernel_rfl) (by kernel_rfl) (fun k hk => by cases hk) (by kernel_rfl) (laidMet_of_run' 8 (by kernel_rfl) (by kernel_rfl)))) ?_
  intro W base args ds gs before hval hW _ _ hsz hL _ _
  exact contract H enc W base args ds gs before hval hW hsz hL
theorem said : Rows.NodeEncodesSaid :=
  OpenClaim.holds_of_cond 3 Tryd.f3 rfl rfl rfl rfl rfl rfl rfl ⟨rfl, rfl, rfl, rfl, rfl⟩ rfl rfl rfl rfl rfl (by kernel_rfl) Tryd.func3 (by kernel_rfl)
    (of_decide_eq_true (by kernel_rfl)) (by unfold Func.isWrapper; first | (rw [if_pos (by decide +kernel)]; kernel_rfl) | (rw [if_neg (by decide +kernel)]; exact ⟨rfl, rfl⟩))
    (fun os started H enc _ F => by rw [OpenClaim.pre_eq_preRow]; exact lifted os started H enc F)
theorem plain (f : FuncId) (fn : Func) (hf : Tryd.pinned.checked.prog.funcNamed Rows.nodeEncodesRow.func = some f) (hfn : Tryd.pinned.checked.prog.funcs[f]? = some fn) :
    false = Tryd.pinned.checked.prog.looks [] ∧ ∀ (j : Nat) t, fn.params[j]? = some t → Tryd.pinned.checked.prog.wantsStandIn t = false := by
  obtain rfl : f = 3 := Option.some.inj ((show Tryd.prog.funcNamed Rows.nodeEncodesRow.func = some 3 by kernel_rfl).symm.trans hf) |>.symm
  obtain rfl : fn = Tryd.f3 := (Option.some.inj (Tryd.func3.symm.trans hfn)).symm
  refine ⟨by kernel_rfl, fun j t ht => ?_⟩
  rw [Tryd.params3] at ht
  have hm : t ∈ [3, 25] := by simpa using Array.mem_of_getElem? ht
  have hall : [3, 25].all (fun t => !Tryd.prog.wantsStandIn t) = true := by kernel_rfl
  have h1 := List.all_eq_true.1 hall t hm
  have h2 : Tryd.prog.wantsStandIn t = false := by simpa using h1
  exact h2
theorem card : Rows.NodeEncodesCardSaid :=
  Claim7.holds_tied_plain_at .later [] _ _ _ _ said (fun _ h => by cases h) (by kernel_rfl) (fun _ h => by cases h) nodeEncodes_row_tie rfl ⟨rfl, rfl⟩ (by kernel_rfl) rfl plain (by kernel_rfl)
end Go.Proofs.YtpjgghalnkfdkaaDoor.NodeEncodes
namespace Go.Proofs.YtpjgghalnkfdkaaDoor
theorem nodeEncodes_card : Rows.NodeEncodesCardSaid := NodeEncodes.card
end Go.Proofs.YtpjgghalnkfdkaaDoor
