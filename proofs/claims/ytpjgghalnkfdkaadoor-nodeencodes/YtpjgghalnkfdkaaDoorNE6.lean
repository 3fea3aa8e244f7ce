/- node: the document's Encode of a node that may be and fits. (Made by mkne6.py.) -/
import Derived.Test.YtpjgghalnkfdkaaDoorNE5
namespace Go.Proofs.YtpjgghalnkfdkaaDoor
open Go.RowKit
set_option linter.unusedVariables false
set_option linter.unusedSimpArgs false
theorem headB_eq (k ks bs sm : Nat) : headB k ks bs sm = (((hd4 ++ be 1 k) ++ be 1 0) ++ be 2 ks ++ be 4 bs) ++ be 4 sm := rfl
theorem headB_take (k ks bs : Nat) : ((((hd4 ++ be 1 k) ++ be 1 0) ++ be 2 ks ++ be 4 bs) ++ be 4 0).take 12 = ((hd4 ++ be 1 k) ++ be 1 0) ++ be 2 ks ++ be 4 bs := List.take_left' (by simp [hd4, be_length])
theorem Gr.nil {w0 w : World} (k : Same w0 w) : Gr w0 w (.slice none 0 0) [] := ⟨OwnM.nil _ _ _, (fun k hk => by simp [Value.ownBlock] at hk), k⟩
theorem bt_one (W : World) (k : Nat) (hk : k < 256) : Bt (W.alloc (.cells #[.int .u8 (k : Nat)] 5)) (.slice (some ⟨W.heap.size, 0, none⟩) 1 1) (be 1 k) := by
  obtain ⟨y, e, hy⟩ := be1_small k hk
  have h : (W.alloc (.cells #[.int .u8 (k : Nat)] 5)).heap[W.heap.size]? = some (.cells ((be 1 k).map U8).toArray 5 (0, 0)) := by
    have := blk_new W (.cells #[.int .u8 (k : Nat)] 5)
    rw [e]
    simp only [List.map_cons, List.map_nil, U8, hy]
    exact this
  exact bt_of_blk h (be_length _ _)
theorem bt_past {W W' : World} {row : Option Nat} {g n c : Nat} {l : List UInt8} (h : Bt W (.slice (some ⟨g, 0, none⟩) n c) l) (hg : W.grownBy W' row) (hn : row ≠ some g) : Bt W' (.slice (some ⟨g, 0, none⟩) n c) l := by
  obtain ⟨ao, cap, e, h2, h3⟩ := h.ex
  simp only [Value.slice.injEq] at e
  obtain ⟨rfl, rfl, rfl⟩ := e
  refine ⟨_, _, rfl, h2, fun h0 => ?_⟩
  obtain ⟨b, off, e, hc⟩ := h3 h0
  cases e
  refine ⟨_, _, rfl, fun j hj => ?_⟩
  exact Kept.cell (S := fun k => row = some k) ((Kept.refl _ W).grown hg (fun k e _ => e)) (fun e => hn e) (hc j hj)
theorem high4_new (x : Nat) (hx : x < 18446744073709551616) (w : World) : Calls Tryd.prog 36 #[.int .u64 x, .int .i64 4] w fun e w' => ∃ g, e = .returned (.slice (some ⟨g, 0, none⟩) 4 4) ∧ Bt w' (.slice (some ⟨g, 0, none⟩) 4 4) (be 4 x) ∧ Same w w' ∧ w.heap.size ≤ g :=
  (high4_any x hx w).mono fun e w' ⟨h1, h2, h3⟩ => ⟨_, h1, by
    have hl : (be 4 x).length = 4 := be_length _ _
    exact ⟨some ⟨w.heap.size, 0, none⟩, 4, by rw [hl], by rw [hl]; exact Nat.le_refl _, fun _ => ⟨_, 0, rfl, fun j hj => by rw [blk_cell h2]; simp [hj]⟩⟩, h3, Nat.le_refl _⟩
set_option maxHeartbeats 8000000 in
set_option maxRecDepth 100000 in
theorem refEncode_leaf (n : Nd) (a1 a2 a3 : Option Addr) (k1 c1 k2 c2 k3 c3 : Nat) (sz : Nat) (w : World) (r1 : Row w (.slice a1 k1 c1) (TS n.keys)) (r2 : Row w (.slice a2 k2 c2) (TS n.vals)) (r3 : Row w (.slice a3 k3 c3) (IS n.kids)) (hl : n.leaf = true) (hb : n.Bd) (hbd : n.keys.length ≤ 8796093022208) (hc : n.chk = 0) (hj : JSize sz) (hfit : n.size ≤ sz) :
    Calls Tryd.prog 10 #[.int .i64 (sz : Nat), .agg #[.bool n.leaf, .slice a1 k1 c1, .slice a2 k2 c2, .slice a3 k3 c3]] w fun e w' => ∃ u, e = .returned u ∧ EnQ n sz w u w' := by
  have hF := chk_fine hc
  have hbl := body_len hF
  have hs : sz ≤ 4096 := by have := hj.2.1; omega
  have hs0 : 512 ≤ sz := by have := hj.1; omega
  have hke : n.keys.length < 65536 := by have := fine_keys hF; omega
  have hEQ : n.encE (sz : Int) = 0 := by unfold Nd.encE; rw [if_pos hc, if_pos hj, if_neg (by omega)]
  have hEB : n.encB (sz : Int) = n.enc sz := by unfold Nd.encB; rw [if_pos hEQ]; rfl
  have e1 := r1.tl
  have e2 := r2.tl
  have e3 := r3.il
  have HCk := hidden (fun W (k : Same w W) => refCheck_any n a1 a2 a3 k1 c1 k2 c2 k3 c3 W (r1.same k) (r2.same k) (r3.same k) hb)
  rw [hc] at HCk
  have HSz := hidden (fun W (k : Same w W) => refSize_any n a1 a2 a3 k1 c1 k2 c2 k3 c3 W (r1.same k) (r2.same k) (r3.same k) hF hbd)
  rw [← fine_size hF, ← hbl] at HSz
  have HPw := hidden (fun W => power_any (sz : Int) W)
  rw [decide_eq_true hj] at HPw
  have HBL : Hid (16 + n.body.length ≤ sz) := hidden (by omega)
  rw [hl] at HCk HSz ⊢
  have HFin : Hid (n.enc sz = (((((([68, 78, 79, 68] : List UInt8) ++ [1, 0]) ++ be 2 k1) ++ be 4 n.body.length) ++ be 4 (crc ((((([68, 78, 79, 68] : List UInt8) ++ [1, 0]) ++ be 2 k1) ++ be 4 n.body.length) ++ n.body))) ++ n.body) ++ List.replicate (sz - ((((((([68, 78, 79, 68] : List UInt8) ++ [1, 0]) ++ be 2 k1) ++ be 4 n.body.length) ++ be 4 (crc ((((([68, 78, 79, 68] : List UInt8) ++ [1, 0]) ++ be 2 k1) ++ be 4 n.body.length) ++ n.body))) ++ n.body)).length) 0) := by
    rw [Hid, Nd.enc, encS, encH, e1, show n.kd = 1 by unfold Nd.kd; rw [hl]; rfl]
    simp only [headB_eq, headB_take]
    have q : (([68, 78, 79, 68] : List UInt8) ++ [1, 0]) = (hd4 ++ be 1 1) ++ be 1 0 := rfl
    rw [q]
    simp only [List.append_assoc]
    congr 7
    simp [be_length, hd4]
    omega
  have HBD : Hid (n.body = entL n.keys n.vals) := by rw [Hid, Nd.body, hl]; rfl
  have hkv := (hF.leaf hl).1
  have HKV := hidden hkv
  have HKX : Hid (∀ i (h : i < n.keys.length), (n.keys[i]).size < 256) := hidden (fun i h => by have := (hF.k i h).2; omega)
  have HVX : Hid (∀ i (h : i < n.vals.length), (n.vals[i]).size < 256) := hidden (fun i h => by have := hF.v i h; omega)
  have HR1 := hidden r1
  have HR2 := hidden r2
  have HE1 := hidden e1
  have HE2 := hidden e2
  have HR := hidden (show ∀ v W, Bt W v (n.enc sz) → Same w W → EnQ n sz w (.tuple #[v, .int .i64 0]) W from fun v W h k => ⟨_, by rw [hEQ], by rw [hEB]; exact h, k⟩)
  have H4 := hidden (fun x hx W => high4_g x hx W)
  have H2 := hidden (fun x hx W => high2_g x hx W)
  have HK1 : Hid (k1 < 65536) := hidden (by omega)
  obtain ⟨BD, hBD⟩ : ∃ BD, n.body = BD := ⟨_, rfl⟩
  obtain ⟨EL, hEL⟩ : ∃ EL, n.enc sz = EL := ⟨_, rfl⟩
  rw [hBD] at HSz HBL HFin HBD
  rw [hEL] at HFin HR
  have K0 := hidden (same_alloc w (.cells #[.bool true, .slice a1 k1 c1, .slice a2 k2 c2, .slice a3 k3 c3] 25))
  have BXF : Hid (∀ W, Same (w.alloc (.cells #[.bool true, .slice a1 k1 c1, .slice a2 k2 c2, .slice a3 k3 c3] 25)) W → W.cell? ⟨w.heap.size, 0, none⟩ = some (.bool true) ∧ W.cell? ⟨w.heap.size, 1, none⟩ = some (.slice a1 k1 c1) ∧ W.cell? ⟨w.heap.size, 2, none⟩ = some (.slice a2 k2 c2) ∧ W.cell? ⟨w.heap.size, 3, none⟩ = some (.slice a3 k3 c3)) := hidden (fun W k => ⟨box_cell 0 k rfl, box_cell 1 k rfl, box_cell 2 k rfl, box_cell 3 k rfl⟩)
  have hgt : ¬ (sz : Int) < ((16 + BD.length : Nat) : Int) := by have := HBL.out; omega
  clear r1 r2 r3 hc hj hF hbl hb hbd hfit hke hEQ hEB hBD hEL e1 e2 e3 hkv
  have t0 : True := trivial
  have tS : True := trivial
  go_enter Tryd.func10, Tryd.ntmps10
  go_wp2_with (first
    | (go_at_call 14; refine (HCk.out _ K0.out).mono ?_; rintro e w1 ⟨rfl, q1⟩; obtain ⟨x0, x1, x2, x3⟩ := BXF.out _ q1; have K1 := hidden q1; clear q1)
    | (go_at_call 35; refine (HPw.out _).mono ?_; rintro e w1' ⟨rfl, rfl⟩)
    | (go_at_call 16; refine (HSz.out _ (K0.out.trans K1.out)).mono ?_; rintro e w2 ⟨rfl, q2⟩; have K2 := hidden (K1.out.trans q2); obtain ⟨y0, y1, y2, y3⟩ := BXF.out _ K2.out; clear q2))
  go_loopw [7, 9] (fun bv i wr => ∃ i' : Nat, i = .int .i64 i' ∧ i' ≤ k1 ∧ Gr (w.alloc (.cells #[.bool true, .slice a1 k1 c1, .slice a2 k2 c2, .slice a3 k3 c3] 25)) wr bv (entL (n.keys.take i') (n.vals.take i'))) (fun _ i _ => k1 - (intOf i).toNat)
  case atStart => exact ⟨0, rfl, Nat.zero_le _, by simpa [entL] using (show Gr (w.alloc (.cells #[.bool true, .slice a1 k1 c1, .slice a2 k2 c2, .slice a3 k3 c3] 25)) w2 (.slice none 0 0) [] from ⟨OwnM.nil _ _ _, (fun k hk => by simp [Value.ownBlock] at hk), K2.out⟩)⟩
  case round =>
    obtain ⟨i, rfl, hi, hg⟩ := hrel
    have HG := hidden hg
    clear hg
    obtain ⟨y0, y1, y2, y3⟩ := BXF.out _ HG.out.same
    by_cases h1 : i < k1
    · have hil : i < n.keys.length := by rw [HE1.out]; exact h1
      have hi0 : (0 : Int) ≤ (i : Int) := by omega
      have hi1 : (i : Int) < (k1 : Int) := by omega
      obtain ⟨b, off, ha, hc⟩ := HR1.out.text hil
      subst ha
      have hx256 := HKX.out i hil
      have hk6 := HK1.out
      have qi : wrap64 ((i : Int) + 1) = ((i + 1 : Nat) : Int) := IntWalk.wrap64_in _ ⟨by omega, by omega⟩
      have hiv : i < n.vals.length := by rw [HKV.out]; exact hil
      have hi2 : (i : Int) < (k2 : Int) := by have := HE2.out; omega
      obtain ⟨b', off', ha', hc'⟩ := HR2.out.text hiv
      subst ha'
      have hy256 := HVX.out i hiv
      have hst := entL_step n.keys n.vals HKV.out.symm hil
      have hle := entL_le n.keys n.vals (i + 1)
      have hbl := HBL.out
      rw [HBD.out] at hbl
      rw [hst, List.length_append, entB_len] at hle
      obtain ⟨x, hx⟩ : ∃ x, n.keys[i] = x := ⟨_, rfl⟩
      obtain ⟨y, hy⟩ : ∃ y, n.vals[i] = y := ⟨_, rfl⟩
      rw [hx] at hc hst hle hx256
      rw [hy] at hc' hst hle hy256
      obtain ⟨E, hE⟩ : ∃ E, entL (n.keys.take i) (n.vals.take i) = E := ⟨_, rfl⟩
      rw [hE] at hst hle HG
      have HXY : Hid (E.length + x.size + y.size ≤ 4096) := hidden (by omega)
      have hfin : Hid (entL (n.keys.take (i + 1)) (n.vals.take (i + 1)) = (((E ++ be 1 x.size) ++ be 1 y.size) ++ x.data.toList) ++ y.data.toList) := by rw [Hid, hst]; simp [entB]
      have qy : IntKind.u8.wrap (y.size : Int) = (y.size : Int) := by simp [IntKind.wrap, IntKind.signed, IntKind.bits]; omega
      have VC := hidden (fun W (k : Same w W) => k.cell (p := ⟨b', off' + i, none⟩) (fun h => h) hc')
      have qx : IntKind.u8.wrap (x.size : Int) = (x.size : Int) := by simp [IntKind.wrap, IntKind.signed, IntKind.bits]; omega
      have XC := hidden (fun W (k : Same w W) => k.cell (p := ⟨b, off + i, none⟩) (fun h => h) hc)
      have xc0 := XC.out _ (K0.out.trans HG.out.same)
      have HX256 := hidden hx256
      clear hst hle hbl hx hy hE hc hc' hx256
      have t1 : True := trivial
      have HY256 := hidden hy256
      clear hy256
      go_wp2_with (first
        | (at_builtin; have _t := t1; clear t1; refine wl_app rfl _ _ rfl _ _ _ _ rfl (HG.out.on (same_alloc _ _)) rfl (bt_one _ _ HX256.out) (by have := HXY.out; simp [be_length]; omega) ?_; intro v1 w1 g1 _ _; have G1 := hidden g1; obtain ⟨z0, z1, z2, z3⟩ := BXF.out _ g1.same; have vc1 := VC.out _ (K0.out.trans g1.same); clear g1)
        | (at_builtin; refine wl_app rfl _ _ rfl _ _ _ _ rfl (G1.out.on (same_alloc _ _)) rfl (bt_one _ _ HY256.out) (by have := HXY.out; simp [be_length]; omega) ?_; intro v2 w2' g2 _ _; have G2 := hidden g2; obtain ⟨u0, u1, u2, u3⟩ := BXF.out _ g2.same; have xc2 := XC.out _ (K0.out.trans g2.same); have vc2 := VC.out _ (K0.out.trans g2.same); clear g2))
      have tA : True := trivial
      go_region_law (first
        | (have _t := tA; refine st_apps rfl _ _ rfl v2 x _ rfl (G2.out.on ((Kept.refl _ _).drew)) rfl (by have := HXY.out; simp [be_length]; omega) ?_; intro v3 w3 g3 _ _; clear tA; have G3 := hidden g3; obtain ⟨s0, s1, s2, s3⟩ := BXF.out _ g3.same; have vc3 := VC.out _ (K0.out.trans g3.same); clear g3)
        | (refine st_apps rfl _ _ rfl v3 y _ rfl G3.out rfl (by have := HXY.out; simp [be_length, size_list]; omega) ?_; intro v4 w4 g4 _ _; have G4 := hidden g4; clear g4))
      all_goals
        go_wp2
        go_roundw
        case rel => exact ⟨i + 1, by go_num, by omega, by rw [hfin.out]; exact G4.out⟩
        case measure => simp [intOf]; omega
    · obtain rfl : i = k1 := by omega
      have hfin : Hid (entL (n.keys.take i) (n.vals.take i) = BD) := by
        rw [Hid, HBD.out]
        have f1 : n.keys.take i = n.keys := by rw [← HE1.out, List.take_length]
        have f2 : n.vals.take i = n.vals := by rw [← HE1.out, ← HKV.out, List.take_length]
        rw [f1, f2]
      rw [hfin.out] at HG
      have q1 : ¬ (i : Int) < (i : Int) := by omega
      have HB := hidden HG.out.bt
      have HS0 := hidden (K0.out.trans HG.out.same)
      obtain ⟨ab, cb, hbv, _⟩ := HB.out.form
      have HXB : Hid (∀ W, Same wr W → W.cell? ⟨w.heap.size, 1, none⟩ = some (.slice a1 i c1)) := hidden (fun W k => (BXF.out _ (HG.out.same.trans k)).2.1)
      subst hbv
      clear y0 y2 y3 hfin
      have hC : (([68, 78, 79, 68] : List UInt8).map U8).toArray = #[Value.int .u8 68, .int .u8 78, .int .u8 79, .int .u8 68] := rfl
      have hcv := conv_const wr (([68, 78, 79, 68] : List UInt8).map U8).toArray 4 4
      have g0 : Gr wr (wr.alloc (.cells (([68, 78, 79, 68] : List UInt8).map U8).toArray 5 (4, 5))) (.slice (some ⟨wr.heap.size, 0, none⟩) 4 4) [68, 78, 79, 68] := Gr.fresh (Kept.refl (fun _ => False) wr) [68, 78, 79, 68] (4, 5) (.inr (Nat.le_refl _)) (by decide)
      rw [hC] at hcv g0
      have hcv2 : (convert 27 27 (.slice (some ⟨wr.heap.size, 0, none⟩) 4 4)).run Tryd.prog (wr.alloc (.cells #[Value.int .u8 68, .int .u8 78, .int .u8 79, .int .u8 68] 5)) = .ok (.slice (some ⟨wr.heap.size, 0, none⟩) 4 4) (wr.alloc (.cells #[Value.int .u8 68, .int .u8 78, .int .u8 79, .int .u8 68] 5 (4, 5))) := hcv
      have G0 := hidden g0
      obtain ⟨Wc, hWc⟩ : ∃ Wc, Wc = wr.alloc (.cells #[Value.int .u8 68, .int .u8 78, .int .u8 79, .int .u8 68] 5 (4, 5)) := ⟨_, rfl⟩
      rw [← hWc] at hcv2 G0
      have B0 : Hid (Bt (Wc.alloc (.cells #[.int .u8 1, .int .u8 0] 5)) (.slice (some ⟨Wc.heap.size, 0, none⟩) 2 2) [1, 0]) := hidden (by
        have h : (Wc.alloc (.cells #[.int .u8 1, .int .u8 0] 5)).heap[Wc.heap.size]? = some (.cells (([1, 0] : List UInt8).map U8).toArray 5 (0, 0)) := blk_new Wc _
        exact bt_of_blk h rfl)
      clear hcv g0 hC hWc
      have a1' : IntKind.u64.wrap (i : Int) = (i : Int) := by have := HK1.out; rw [IntKind.wrap_u64]; omega
      have hbdl : BD.length ≤ 4096 := by have := HBL.out; omega
      have a2' : IntKind.u64.wrap (BD.length : Int) = (BD.length : Int) := by rw [IntKind.wrap_u64]; omega
      have L2 : Hid (∀ x, (be 2 x).length = 2) := hidden (fun x => be_length _ _)
      have L4 : Hid (∀ x, (be 4 x).length = 4) := hidden (fun x => be_length _ _)
      obtain ⟨H6, hH6⟩ : ∃ H6, ([68, 78, 79, 68] : List UInt8) ++ [1, 0] = H6 := ⟨_, rfl⟩
      have l6 : H6.length = 6 := by rw [← hH6]; rfl
      rw [hH6] at HFin
      obtain ⟨H8, hH8⟩ : ∃ H8, H6 ++ be 2 i = H8 := ⟨_, rfl⟩
      have l8 : H8.length = 8 := by rw [← hH8, List.length_append, l6, be_length]
      rw [hH8] at HFin
      obtain ⟨H12, hH12⟩ : ∃ H12, H8 ++ be 4 BD.length = H12 := ⟨_, rfl⟩
      have l12 : H12.length = 12 := by rw [← hH12, List.length_append, l8, be_length]
      rw [hH12] at HFin
      have hadd : ∀ W : World, (Op.stringOp .add ⟨H12.toArray⟩ ⟨BD.toArray⟩).run Tryd.prog W = .ok (.string ⟨(H12 ++ BD).toArray⟩) W := fun W => by
        rw [run_string_add_sum W _ _ (by rw [ba_size, ba_size]; omega)]
        first | rfl | (congr 2; apply ByteArray.ext; simp)
      have HCs := hidden (fun W => refCrc_any ⟨(H12 ++ BD).toArray⟩ W (by rw [ba_size, List.length_append]; omega))
      rw [ba_list] at HCs
      have HCl := hidden (crc_lt (H12 ++ BD))
      obtain ⟨cr, hcr⟩ : ∃ cr, crc (H12 ++ BD) = cr := ⟨_, rfl⟩
      rw [hcr] at HFin HCs HCl
      have a3' : IntKind.u64.wrap (cr : Int) = (cr : Int) := by have := HCl.out; rw [IntKind.wrap_u64]; omega
      obtain ⟨HA, hHA⟩ : ∃ HA, (H12 ++ be 4 cr) ++ BD = HA := ⟨_, rfl⟩
      have lA : HA.length = 16 + BD.length := by rw [← hHA, List.length_append, List.length_append, l12, be_length]
      rw [hHA] at HFin
      have HHA := hidden hHA
      have HLA := hidden lA
      have HH6 := hidden hH6
      have HH8 := hidden hH8
      have HH12 := hidden hH12
      have HL6 := hidden l6
      have HL8 := hidden l8
      have HL12 := hidden l12
      have HMK := hidden (fun W => make_bytes sz (by omega) W)
      obtain ⟨Z, hZ⟩ : ∃ Z, (List.replicate sz (U8 0)).toArray = Z := ⟨_, rfl⟩
      rw [hZ] at HMK
      have HZ := hidden hZ
      have HBDL := hidden hbdl
      clear hH6 hH8 hH12 hcr hHA lA l6 l8 l12 hZ hbdl
      have tD : True := trivial
      have tE : True := trivial
      go_wp2_with (first
        | (at_builtin; have _t := tD; clear tD; refine wl_app rfl _ _ rfl _ _ _ _ rfl (G0.out.on (same_alloc _ _)) rfl B0.out (by decide) ?_; intro v1 w1 g1 _ _; rw [HH6.out] at g1; have G1 := hidden g1; have xb1 := HXB.out _ g1.same; clear g1)
        | (go_at_call 36; have _t := tE; clear tE; refine (H2.out i (by have := HK1.out; omega) _).mono ?_; rintro e y1 ⟨p1, rfl, b1, k1'⟩; have B1 := hidden b1; have G1 := hidden (G1.out.on k1'); have tF : True := trivial; clear b1 k1')
        | (at_builtin; have _t := tF; clear tF; refine wl_app rfl _ _ rfl _ _ _ _ rfl G1.out rfl B1.out (by rw [HL6.out, L2.out]; decide) ?_; intro v2 w2' g2 _ _; rw [HH8.out] at g2; have G2 := hidden g2; have tG : True := trivial; clear g2 B1)
        | (go_at_call 36; have _t := tG; clear tG; refine (H4.out BD.length (by have := HBDL.out; omega) _).mono ?_; rintro e y2 ⟨p2, rfl, b2, k2'⟩; have B2 := hidden b2; have G2 := hidden (G2.out.on k2'); have tH : True := trivial; clear b2 k2')
        | (at_builtin; have _t := tH; clear tH; refine wl_app rfl _ _ rfl _ _ _ _ rfl G2.out rfl B2.out (by rw [HL8.out, L4.out]; decide) ?_; intro v3 w3' g3 _ _; rw [HH12.out] at g3; have hcv3 := g3.bt.text; have hcv4 := (HB.out.same g3.same).text; have hmk3 := HMK.out w3'; have G3 := hidden (g3.on (same_alloc w3' (.cells Z 5))); have N3 : Hid (∀ k, v3.ownBlock = some k → k < w3'.heap.size) := hidden (fun k hk => g3.own.lt hk); have RB := hidden (blk_new w3' (.cells Z 5)); have S3 := hidden g3.same.size; clear g3 B2)
        | (go_at_call 37; refine (HCs.out _).mono ?_; rintro e y5 ⟨rfl, rfl⟩; have tI : True := trivial)
        | (go_at_call 36; have _t := tI; clear tI; refine (H4.out cr (by have := HCl.out; omega) _).mono ?_; rintro e y3 ⟨p3, rfl, b3', k3'⟩; have B3 := hidden b3'; have G3 := hidden (G3.out.on k3'); have RB := hidden (blk_kept k3' (fun h => h) RB.out); have tJ : True := trivial; clear b3' k3')
        | (at_builtin; have _t := tJ; clear tJ; refine wl_app rfl _ _ rfl v3 _ _ _ rfl G3.out rfl B3.out (by rw [HL12.out, L4.out]; decide) ?_; intro v4 w4 g4 r4 o4; have G4 := hidden g4; have hlt5 := blk_lt RB.out; have RB := hidden (blk_past RB.out r4 (fun e => by have := N3.out _ e; omega)); have N4 : Hid (v4.ownBlock ≠ some w3'.heap.size) := hidden (fun e => by have h9 := o4 _ hlt5 e; have := N3.out _ h9; omega); have tK : True := trivial; clear g4 r4 o4 B3)
        | (at_builtin; have _t := tK; clear tK; refine wl_app rfl _ _ rfl v4 _ _ _ rfl G4.out rfl (HB.out.same G4.out.same) (by rw [List.length_append, HL12.out, L4.out]; have := HBDL.out; omega) ?_; intro v5 w5 g5 r5 _; rw [HHA.out] at g5; have RB := hidden (blk_past RB.out r5 (fun e => N4.out e)); obtain ⟨ao5, cap5, hv5, _⟩ := g5.bt.form; have hb5 := g5.bt; rw [hv5] at hb5; obtain ⟨bb5, oo5, ha5, _⟩ := hb5.cell (by have := HLA.out; omega); rw [ha5] at hv5 hb5; rw [hv5]; have hcp := copy_zero sz _ cap5 HA w5 hb5 (by have := HLA.out; have := HBL.out; omega) w3'.heap.size (by rw [HZ.out]; exact RB.out); obtain ⟨CR, hCR⟩ : ∃ CR, ((HA ++ List.replicate (sz - HA.length) 0).map U8).toArray = CR := ⟨_, rfl⟩; rw [hCR] at hcp; have HCR := hidden hCR; clear hCR; have RF := hidden (setRow_heap w5 w3'.heap.size _ CR 5 (0, 0) RB.out); have KF := hidden (same_setRow ((HS0.out.trans g5.same)) (g := w3'.heap.size) (by have := HS0.out.size; have := S3.out; omega) CR); clear g5 r5 hb5))
      go_returns
      refine ⟨_, rfl, HR.out _ _ ?_ KF.out⟩
      rw [HFin.out]
      exact bt_of_blk (by rw [HCR.out]; exact RF.out) (by rw [List.length_append, List.length_replicate]; have := HLA.out; have := HBL.out; omega)
set_option maxHeartbeats 8000000 in
set_option maxRecDepth 100000 in
theorem refEncode_inner (n : Nd) (a1 a2 a3 : Option Addr) (k1 c1 k2 c2 k3 c3 : Nat) (sz : Nat) (z0 : Int) (zs : List Int) (w : World) (r1 : Row w (.slice a1 k1 c1) (TS n.keys)) (r2 : Row w (.slice a2 k2 c2) (TS n.vals)) (r3 : Row w (.slice a3 k3 c3) (IS n.kids)) (hl : n.leaf = false) (hb : n.Bd) (hbd : n.keys.length ≤ 8796093022208) (hc : n.chk = 0) (hj : JSize sz) (hfit : n.size ≤ sz) (hkz : n.kids = z0 :: zs) (hzl : zs.length = n.keys.length) :
    Calls Tryd.prog 10 #[.int .i64 (sz : Nat), .agg #[.bool n.leaf, .slice a1 k1 c1, .slice a2 k2 c2, .slice a3 k3 c3]] w fun e w' => ∃ u, e = .returned u ∧ EnQ n sz w u w' := by
  have hF := chk_fine hc
  have hbl := body_len hF
  have hs : sz ≤ 4096 := by have := hj.2.1; omega
  have hs0 : 512 ≤ sz := by have := hj.1; omega
  have hke : n.keys.length < 65536 := by have := fine_keys hF; omega
  have hEQ : n.encE (sz : Int) = 0 := by unfold Nd.encE; rw [if_pos hc, if_pos hj, if_neg (by omega)]
  have hEB : n.encB (sz : Int) = n.enc sz := by unfold Nd.encB; rw [if_pos hEQ]; rfl
  have e1 := r1.tl
  have e2 := r2.tl
  have e3 := r3.il
  have HCk := hidden (fun W (k : Same w W) => refCheck_any n a1 a2 a3 k1 c1 k2 c2 k3 c3 W (r1.same k) (r2.same k) (r3.same k) hb)
  rw [hc] at HCk
  have HSz := hidden (fun W (k : Same w W) => refSize_any n a1 a2 a3 k1 c1 k2 c2 k3 c3 W (r1.same k) (r2.same k) (r3.same k) hF hbd)
  rw [← fine_size hF, ← hbl] at HSz
  have HPw := hidden (fun W => power_any (sz : Int) W)
  rw [decide_eq_true hj] at HPw
  have HBL : Hid (16 + n.body.length ≤ sz) := hidden (by omega)
  rw [hl] at HCk HSz ⊢
  have HFin : Hid (n.enc sz = (((((([68, 78, 79, 68] : List UInt8) ++ [2, 0]) ++ be 2 k1) ++ be 4 n.body.length) ++ be 4 (crc ((((([68, 78, 79, 68] : List UInt8) ++ [2, 0]) ++ be 2 k1) ++ be 4 n.body.length) ++ n.body))) ++ n.body) ++ List.replicate (sz - ((((((([68, 78, 79, 68] : List UInt8) ++ [2, 0]) ++ be 2 k1) ++ be 4 n.body.length) ++ be 4 (crc ((((([68, 78, 79, 68] : List UInt8) ++ [2, 0]) ++ be 2 k1) ++ be 4 n.body.length) ++ n.body))) ++ n.body)).length) 0) := by
    rw [Hid, Nd.enc, encS, encH, e1, show n.kd = 2 by unfold Nd.kd; rw [hl]; rfl]
    simp only [headB_eq, headB_take]
    have q : (([68, 78, 79, 68] : List UInt8) ++ [2, 0]) = (hd4 ++ be 1 2) ++ be 1 0 := rfl
    rw [q]
    simp only [List.append_assoc]
    congr 7
    simp [be_length, hd4]
    omega
  have HBD : Hid (n.body = be 4 z0.toNat ++ entI n.keys zs) := by rw [Hid, Nd.body, hl, hkz]; rfl
  have HZL := hidden hzl
  have HKX : Hid (∀ i (h : i < n.keys.length), (n.keys[i]).size < 256) := hidden (fun i h => by have := (hF.k i h).2; omega)
  have hzr := fine_kids hF
  obtain ⟨hz0, hz1⟩ := hzr z0 (by rw [hkz]; simp)
  have HZR : Hid (∀ z ∈ zs, 0 ≤ z ∧ z < 4294967296) := hidden (fun z h => hzr z (by rw [hkz]; exact List.mem_cons_of_mem _ h))
  have hkl : n.kids.length = n.keys.length + 1 := by rw [hkz]; simp [hzl]
  have HK3 := hidden (show k3 = k1 + 1 by omega)
  have hp3 : 0 < n.kids.length := by omega
  obtain ⟨b3, o3, ha3, hc3⟩ := r3.int hp3
  have hg0 : n.kids[0] = z0 := by simp [hkz]
  rw [hg0, Nat.add_zero] at hc3
  subst ha3
  have HKC : Hid (∀ i (h : i < zs.length), w.cell? ⟨b3, o3 + (i + 1), none⟩ = some (.int .i64 zs[i])) := hidden (fun i h => by
    have := r3.intAt (j := i + 1) (by rw [hkz]; simpa using h)
    have hg : n.kids[i + 1]'(by rw [hkz]; simpa using h) = zs[i] := by simp [hkz]
    rw [hg] at this
    exact this)
  obtain ⟨zn, rfl⟩ := Int.eq_ofNat_of_zero_le hz0
  rw [Int.toNat_natCast] at HBD
  have HC0 := hidden (fun W (k : Same w W) => k.cell (p := ⟨b3, o3, none⟩) (fun h => h) hc3)
  have q30 : (0 : Int) < (k3 : Int) := by omega
  have qz : IntKind.u64.wrap (zn : Int) = (zn : Int) := by rw [IntKind.wrap_u64]; omega
  have hzn : zn < 18446744073709551616 := by omega
  have HR1 := hidden r1
  have HR2 := hidden r2
  have HE1 := hidden e1
  have HE2 := hidden e2
  have HR := hidden (show ∀ v W, Bt W v (n.enc sz) → Same w W → EnQ n sz w (.tuple #[v, .int .i64 0]) W from fun v W h k => ⟨_, by rw [hEQ], by rw [hEB]; exact h, k⟩)
  have H4 := hidden (fun x hx W => high4_g x hx W)
  have H2 := hidden (fun x hx W => high2_g x hx W)
  have HK1 : Hid (k1 < 65536) := hidden (by omega)
  obtain ⟨BD, hBD⟩ : ∃ BD, n.body = BD := ⟨_, rfl⟩
  obtain ⟨EL, hEL⟩ : ∃ EL, n.enc sz = EL := ⟨_, rfl⟩
  rw [hBD] at HSz HBL HFin HBD
  rw [hEL] at HFin HR
  have K0 := hidden (same_alloc w (.cells #[.bool false, .slice a1 k1 c1, .slice a2 k2 c2, .slice (some ⟨b3, o3, none⟩) k3 c3] 25))
  have BXF : Hid (∀ W, Same (w.alloc (.cells #[.bool false, .slice a1 k1 c1, .slice a2 k2 c2, .slice (some ⟨b3, o3, none⟩) k3 c3] 25)) W → W.cell? ⟨w.heap.size, 0, none⟩ = some (.bool false) ∧ W.cell? ⟨w.heap.size, 1, none⟩ = some (.slice a1 k1 c1) ∧ W.cell? ⟨w.heap.size, 2, none⟩ = some (.slice a2 k2 c2) ∧ W.cell? ⟨w.heap.size, 3, none⟩ = some (.slice (some ⟨b3, o3, none⟩) k3 c3)) := hidden (fun W k => ⟨box_cell 0 k rfl, box_cell 1 k rfl, box_cell 2 k rfl, box_cell 3 k rfl⟩)
  have hgt : ¬ (sz : Int) < ((16 + BD.length : Nat) : Int) := by have := HBL.out; omega
  clear r1 r2 r3 hc hj hF hbl hb hbd hfit hke hEQ hEB hBD hEL e1 e2 e3 hzl hzr hz0 hz1 hkl hp3 hc3 hg0 hkz
  have t0 : True := trivial
  have tS : True := trivial
  go_enter Tryd.func10, Tryd.ntmps10
  go_wp2_with (first
    | (go_at_call 14; refine (HCk.out _ K0.out).mono ?_; rintro e w1 ⟨rfl, q1⟩; obtain ⟨x0, x1, x2, x3⟩ := BXF.out _ q1; have K1 := hidden q1; clear q1)
    | (go_at_call 35; refine (HPw.out _).mono ?_; rintro e w1' ⟨rfl, rfl⟩)
    | (go_at_call 16; refine (HSz.out _ (K0.out.trans K1.out)).mono ?_; rintro e w2 ⟨rfl, q2⟩; have K2 := hidden (K1.out.trans q2); obtain ⟨y0, y1, y2, y3⟩ := BXF.out _ K2.out; have y4 := HC0.out _ (K0.out.trans K2.out); clear q2)
    | (go_at_call 36; have _t := t0; clear t0; refine (H4.out zn hzn _).mono ?_; rintro e w3 ⟨q3, rfl, b3', k3'⟩; have B3 := hidden b3'; have K3 := hidden (K2.out.trans k3'); clear b3' k3')
    | (at_builtin; refine wl_app (w0 := (w.alloc (.cells #[.bool false, .slice a1 k1 c1, .slice a2 k2 c2, .slice (some ⟨b3, o3, none⟩) k3 c3] 25))) rfl _ _ rfl (.slice none 0 0) _ [] _ rfl (Gr.nil K3.out) rfl B3.out (by simp [be_length]) ?_; intro v4 w4 g4 _ _; rw [List.nil_append] at g4; have G4 := hidden g4; clear g4 B3))
  go_loopw [7, 9] (fun bv i wr => ∃ i' : Nat, i = .int .i64 i' ∧ i' ≤ k1 ∧ Gr (w.alloc (.cells #[.bool false, .slice a1 k1 c1, .slice a2 k2 c2, .slice (some ⟨b3, o3, none⟩) k3 c3] 25)) wr bv (be 4 zn ++ entI (n.keys.take i') (zs.take i'))) (fun _ i _ => k1 - (intOf i).toNat)
  case atStart => exact ⟨0, rfl, Nat.zero_le _, by simpa [entI] using G4.out⟩
  case round =>
    obtain ⟨i, rfl, hi, hg⟩ := hrel
    have HG := hidden hg
    clear hg
    obtain ⟨y0, y1, y2, y3⟩ := BXF.out _ HG.out.same
    by_cases h1 : i < k1
    · have hil : i < n.keys.length := by rw [HE1.out]; exact h1
      have hi0 : (0 : Int) ≤ (i : Int) := by omega
      have hi1 : (i : Int) < (k1 : Int) := by omega
      obtain ⟨b, off, ha, hc⟩ := HR1.out.text hil
      subst ha
      have hx256 := HKX.out i hil
      have hk6 := HK1.out
      have qi : wrap64 ((i : Int) + 1) = (i : Int) + 1 := IntWalk.wrap64_in _ ⟨by omega, by omega⟩
      have hiz : i < zs.length := by rw [HZL.out]; exact hil
      have hi3 : (i : Int) + 1 < (k3 : Int) := by have := HK3.out; omega
      have hi30 : (0 : Int) ≤ (i : Int) + 1 := by omega
      have qi2 : IntKind.i64.wrap ((i : Int) + 1) = (i : Int) + 1 := wrapN (by omega) (by omega)
      have qt : ((i : Int) + 1).toNat = i + 1 := by omega
      have hc' := HKC.out i hiz
      have hzb := HZR.out zs[i] (List.getElem_mem _)
      have hst := entI_step n.keys zs HZL.out.symm hil
      have hle := entI_le n.keys zs (i + 1)
      have hbl := HBL.out
      rw [HBD.out, List.length_append, be_length] at hbl
      rw [hst, List.length_append] at hle
      have hle1 : (entI1 n.keys[i] zs[i]).length = 5 + n.keys[i].size := by simp [entI1, be_length, size_list]; omega
      rw [hle1] at hle
      obtain ⟨x, hx⟩ : ∃ x, n.keys[i] = x := ⟨_, rfl⟩
      obtain ⟨y, hy⟩ : ∃ y, zs[i] = y := ⟨_, rfl⟩
      rw [hx] at hc hst hle hx256
      rw [hy] at hc' hst hzb
      obtain ⟨yn, rfl⟩ := Int.eq_ofNat_of_zero_le hzb.1
      obtain ⟨E0, hE0⟩ : ∃ E, entI (n.keys.take i) (zs.take i) = E := ⟨_, rfl⟩
      rw [hE0] at hst hle HG
      obtain ⟨E, hE⟩ : ∃ E, be 4 zn ++ E0 = E := ⟨_, rfl⟩
      have hEl : E.length = 4 + E0.length := by rw [← hE, List.length_append, be_length]
      rw [hE] at HG
      have HXY : Hid (E.length + x.size ≤ 4096) := hidden (by omega)
      have hfin : Hid (be 4 zn ++ entI (n.keys.take (i + 1)) (zs.take (i + 1)) = ((E ++ be 1 x.size) ++ x.data.toList) ++ be 4 yn) := by rw [Hid, hst, ← hE]; simp [entI1]
      have qy : IntKind.u64.wrap (yn : Int) = (yn : Int) := by rw [IntKind.wrap_u64]; omega
      have hyn : yn < 18446744073709551616 := by omega
      have VC := hidden (fun W (k : Same w W) => k.cell (p := ⟨b3, o3 + (i + 1), none⟩) (fun h => h) hc')
      have qx : IntKind.u8.wrap (x.size : Int) = (x.size : Int) := by simp [IntKind.wrap, IntKind.signed, IntKind.bits]; omega
      have XC := hidden (fun W (k : Same w W) => k.cell (p := ⟨b, off + i, none⟩) (fun h => h) hc)
      have xc0 := XC.out _ (K0.out.trans HG.out.same)
      have HX256 := hidden hx256
      clear hst hle hbl hx hy hE hc hc' hx256
      have t1 : True := trivial
      go_wp2_with (first
        | (at_builtin; have _t := t1; clear t1; refine wl_app rfl _ _ rfl _ _ _ _ rfl (HG.out.on (same_alloc _ _)) rfl (bt_one _ _ HX256.out) (by have := HXY.out; simp [be_length]; omega) ?_; intro v1 w1 g1 _ _; have G1 := hidden g1; obtain ⟨z0, z1, z2, z3⟩ := BXF.out _ g1.same; have xc1 := XC.out _ (K0.out.trans g1.same); have vc1 := VC.out _ (K0.out.trans g1.same); clear g1))
      have tA : True := trivial
      have tH : True := trivial
      have D1 : Hid (Same w1 w1.drew) := hidden ((Kept.refl _ _).drew)
      go_region_law (first
        | (have _t := tA; have _u := tH; refine st_apps rfl _ _ rfl v1 x _ rfl (G1.out.on D1.out) rfl (by have := HXY.out; simp [be_length]; omega) ?_; intro v3 w3 g3 _ _; clear tA; have G3 := hidden g3; obtain ⟨s0, s1, s2, s3⟩ := BXF.out _ g3.same; have vc3 := VC.out _ (K0.out.trans g3.same); clear g3)
        | (have _u := tH; refine step_call rfl 36 #[.int .u64 (yn : Nat), .int .i64 4] (fun u W => ∃ g, u = .slice (some ⟨g, 0, none⟩) 4 4 ∧ Bt W (.slice (some ⟨g, 0, none⟩) 4 4) (be 4 yn) ∧ Same w3 W) (by go_simp; try rfl) ((H4.out yn hyn _).mono (fun e w' ⟨g, h1, h2, h3⟩ => ⟨_, h1, g, rfl, h2, h3⟩)) ?_; rintro u w4 ⟨q4, rfl, b4, k4⟩; clear tH; have B4 := hidden b4; have G4 := hidden (G3.out.on k4); clear b4 k4)
        | (have _u := tA; refine step_call rfl 36 #[.int .u64 (yn : Nat), .int .i64 4] (fun u W => ∃ g, u = .slice (some ⟨g, 0, none⟩) 4 4 ∧ Bt W (.slice (some ⟨g, 0, none⟩) 4 4) (be 4 yn) ∧ Same w1.drew W ∧ w1.heap.size ≤ g) (by go_simp; try rfl) ((high4_new yn hyn _).mono (fun e w' ⟨g, h1, h2, h3, h4⟩ => ⟨_, h1, g, rfl, h2, h3, h4⟩)) ?_; rintro u w3 ⟨q4, rfl, b4, k4, n4⟩; clear tH; have B3 := hidden b4; have N3 := hidden n4; have G3 := hidden (G1.out.on (D1.out.trans k4)); obtain ⟨s0, s1, s2, s3⟩ := BXF.out _ G3.out.same; have xc3 := XC.out _ (K0.out.trans G3.out.same); clear b4 k4 n4)
        | (have _t := tA; refine st_apps rfl _ _ rfl v1 x _ rfl G3.out rfl (by have := HXY.out; simp [be_length]; omega) ?_; intro v3 w4 g4 r4 _; clear tA; have G4 := hidden g4; have B4 := hidden (bt_past B3.out r4 (fun e => by have := G1.out.own.lt e; have := N3.out; omega)); clear g4 r4)
        | (refine st_app rfl _ _ rfl _ _ _ _ rfl G4.out rfl B4.out (by have := HXY.out; simp [be_length, size_list]; omega) ?_; intro v5 w5 g5 _ _; have G5 := hidden g5; clear g5))
      all_goals
        go_wp2
        go_roundw
        case rel => exact ⟨i + 1, by go_num, by omega, by rw [hfin.out]; exact G5.out⟩
        case measure => simp [intOf]; omega
    · obtain rfl : i = k1 := by omega
      have hfin : Hid (be 4 zn ++ entI (n.keys.take i) (zs.take i) = BD) := by
        rw [Hid, HBD.out]
        have f1 : n.keys.take i = n.keys := by rw [← HE1.out, List.take_length]
        have f2 : zs.take i = zs := by rw [← HE1.out, ← HZL.out, List.take_length]
        rw [f1, f2]
      rw [hfin.out] at HG
      have q1 : ¬ (i : Int) < (i : Int) := by omega
      have HB := hidden HG.out.bt
      have HS0 := hidden (K0.out.trans HG.out.same)
      obtain ⟨ab, cb, hbv, _⟩ := HB.out.form
      have HXB : Hid (∀ W, Same wr W → W.cell? ⟨w.heap.size, 1, none⟩ = some (.slice a1 i c1)) := hidden (fun W k => (BXF.out _ (HG.out.same.trans k)).2.1)
      subst hbv
      clear y0 y2 y3 hfin
      have hC : (([68, 78, 79, 68] : List UInt8).map U8).toArray = #[Value.int .u8 68, .int .u8 78, .int .u8 79, .int .u8 68] := rfl
      have hcv := conv_const wr (([68, 78, 79, 68] : List UInt8).map U8).toArray 4 4
      have g0 : Gr wr (wr.alloc (.cells (([68, 78, 79, 68] : List UInt8).map U8).toArray 5 (4, 5))) (.slice (some ⟨wr.heap.size, 0, none⟩) 4 4) [68, 78, 79, 68] := Gr.fresh (Kept.refl (fun _ => False) wr) [68, 78, 79, 68] (4, 5) (.inr (Nat.le_refl _)) (by decide)
      rw [hC] at hcv g0
      have hcv2 : (convert 27 27 (.slice (some ⟨wr.heap.size, 0, none⟩) 4 4)).run Tryd.prog (wr.alloc (.cells #[Value.int .u8 68, .int .u8 78, .int .u8 79, .int .u8 68] 5)) = .ok (.slice (some ⟨wr.heap.size, 0, none⟩) 4 4) (wr.alloc (.cells #[Value.int .u8 68, .int .u8 78, .int .u8 79, .int .u8 68] 5 (4, 5))) := hcv
      have G0 := hidden g0
      obtain ⟨Wc, hWc⟩ : ∃ Wc, Wc = wr.alloc (.cells #[Value.int .u8 68, .int .u8 78, .int .u8 79, .int .u8 68] 5 (4, 5)) := ⟨_, rfl⟩
      rw [← hWc] at hcv2 G0
      have B0 : Hid (Bt (Wc.alloc (.cells #[.int .u8 2, .int .u8 0] 5)) (.slice (some ⟨Wc.heap.size, 0, none⟩) 2 2) [2, 0]) := hidden (by
        have h : (Wc.alloc (.cells #[.int .u8 2, .int .u8 0] 5)).heap[Wc.heap.size]? = some (.cells (([2, 0] : List UInt8).map U8).toArray 5 (0, 0)) := blk_new Wc _
        exact bt_of_blk h rfl)
      clear hcv g0 hC hWc
      have a1' : IntKind.u64.wrap (i : Int) = (i : Int) := by have := HK1.out; rw [IntKind.wrap_u64]; omega
      have hbdl : BD.length ≤ 4096 := by have := HBL.out; omega
      have a2' : IntKind.u64.wrap (BD.length : Int) = (BD.length : Int) := by rw [IntKind.wrap_u64]; omega
      have L2 : Hid (∀ x, (be 2 x).length = 2) := hidden (fun x => be_length _ _)
      have L4 : Hid (∀ x, (be 4 x).length = 4) := hidden (fun x => be_length _ _)
      obtain ⟨H6, hH6⟩ : ∃ H6, ([68, 78, 79, 68] : List UInt8) ++ [2, 0] = H6 := ⟨_, rfl⟩
      have l6 : H6.length = 6 := by rw [← hH6]; rfl
      rw [hH6] at HFin
      obtain ⟨H8, hH8⟩ : ∃ H8, H6 ++ be 2 i = H8 := ⟨_, rfl⟩
      have l8 : H8.length = 8 := by rw [← hH8, List.length_append, l6, be_length]
      rw [hH8] at HFin
      obtain ⟨H12, hH12⟩ : ∃ H12, H8 ++ be 4 BD.length = H12 := ⟨_, rfl⟩
      have l12 : H12.length = 12 := by rw [← hH12, List.length_append, l8, be_length]
      rw [hH12] at HFin
      have hadd : ∀ W : World, (Op.stringOp .add ⟨H12.toArray⟩ ⟨BD.toArray⟩).run Tryd.prog W = .ok (.string ⟨(H12 ++ BD).toArray⟩) W := fun W => by
        rw [run_string_add_sum W _ _ (by rw [ba_size, ba_size]; omega)]
        first | rfl | (congr 2; apply ByteArray.ext; simp)
      have HCs := hidden (fun W => refCrc_any ⟨(H12 ++ BD).toArray⟩ W (by rw [ba_size, List.length_append]; omega))
      rw [ba_list] at HCs
      have HCl := hidden (crc_lt (H12 ++ BD))
      obtain ⟨cr, hcr⟩ : ∃ cr, crc (H12 ++ BD) = cr := ⟨_, rfl⟩
      rw [hcr] at HFin HCs HCl
      have a3' : IntKind.u64.wrap (cr : Int) = (cr : Int) := by have := HCl.out; rw [IntKind.wrap_u64]; omega
      obtain ⟨HA, hHA⟩ : ∃ HA, (H12 ++ be 4 cr) ++ BD = HA := ⟨_, rfl⟩
      have lA : HA.length = 16 + BD.length := by rw [← hHA, List.length_append, List.length_append, l12, be_length]
      rw [hHA] at HFin
      have HHA := hidden hHA
      have HLA := hidden lA
      have HH6 := hidden hH6
      have HH8 := hidden hH8
      have HH12 := hidden hH12
      have HL6 := hidden l6
      have HL8 := hidden l8
      have HL12 := hidden l12
      have HMK := hidden (fun W => make_bytes sz (by omega) W)
      obtain ⟨Z, hZ⟩ : ∃ Z, (List.replicate sz (U8 0)).toArray = Z := ⟨_, rfl⟩
      rw [hZ] at HMK
      have HZ := hidden hZ
      have HBDL := hidden hbdl
      clear hH6 hH8 hH12 hcr hHA lA l6 l8 l12 hZ hbdl
      have tD : True := trivial
      have tE : True := trivial
      go_wp2_with (first
        | (at_builtin; have _t := tD; clear tD; refine wl_app rfl _ _ rfl _ _ _ _ rfl (G0.out.on (same_alloc _ _)) rfl B0.out (by decide) ?_; intro v1 w1 g1 _ _; rw [HH6.out] at g1; have G1 := hidden g1; have xb1 := HXB.out _ g1.same; clear g1)
        | (go_at_call 36; have _t := tE; clear tE; refine (H2.out i (by have := HK1.out; omega) _).mono ?_; rintro e y1 ⟨p1, rfl, b1, k1'⟩; have B1 := hidden b1; have G1 := hidden (G1.out.on k1'); have tF : True := trivial; clear b1 k1')
        | (at_builtin; have _t := tF; clear tF; refine wl_app rfl _ _ rfl _ _ _ _ rfl G1.out rfl B1.out (by rw [HL6.out, L2.out]; decide) ?_; intro v2 w2' g2 _ _; rw [HH8.out] at g2; have G2 := hidden g2; have tG : True := trivial; clear g2 B1)
        | (go_at_call 36; have _t := tG; clear tG; refine (H4.out BD.length (by have := HBDL.out; omega) _).mono ?_; rintro e y2 ⟨p2, rfl, b2, k2'⟩; have B2 := hidden b2; have G2 := hidden (G2.out.on k2'); have tH : True := trivial; clear b2 k2')
        | (at_builtin; have _t := tH; clear tH; refine wl_app rfl _ _ rfl _ _ _ _ rfl G2.out rfl B2.out (by rw [HL8.out, L4.out]; decide) ?_; intro v3 w3' g3 _ _; rw [HH12.out] at g3; have hcv3 := g3.bt.text; have hcv4 := (HB.out.same g3.same).text; have hmk3 := HMK.out w3'; have G3 := hidden (g3.on (same_alloc w3' (.cells Z 5))); have N3 : Hid (∀ k, v3.ownBlock = some k → k < w3'.heap.size) := hidden (fun k hk => g3.own.lt hk); have RB := hidden (blk_new w3' (.cells Z 5)); have S3 := hidden g3.same.size; clear g3 B2)
        | (go_at_call 37; refine (HCs.out _).mono ?_; rintro e y5 ⟨rfl, rfl⟩; have tI : True := trivial)
        | (go_at_call 36; have _t := tI; clear tI; refine (H4.out cr (by have := HCl.out; omega) _).mono ?_; rintro e y3 ⟨p3, rfl, b3', k3'⟩; have B3 := hidden b3'; have G3 := hidden (G3.out.on k3'); have RB := hidden (blk_kept k3' (fun h => h) RB.out); have tJ : True := trivial; clear b3' k3')
        | (at_builtin; have _t := tJ; clear tJ; refine wl_app rfl _ _ rfl v3 _ _ _ rfl G3.out rfl B3.out (by rw [HL12.out, L4.out]; decide) ?_; intro v4 w4 g4 r4 o4; have G4 := hidden g4; have hlt5 := blk_lt RB.out; have RB := hidden (blk_past RB.out r4 (fun e => by have := N3.out _ e; omega)); have N4 : Hid (v4.ownBlock ≠ some w3'.heap.size) := hidden (fun e => by have h9 := o4 _ hlt5 e; have := N3.out _ h9; omega); have tK : True := trivial; clear g4 r4 o4 B3)
        | (at_builtin; have _t := tK; clear tK; refine wl_app rfl _ _ rfl v4 _ _ _ rfl G4.out rfl (HB.out.same G4.out.same) (by rw [List.length_append, HL12.out, L4.out]; have := HBDL.out; omega) ?_; intro v5 w5 g5 r5 _; rw [HHA.out] at g5; have RB := hidden (blk_past RB.out r5 (fun e => N4.out e)); obtain ⟨ao5, cap5, hv5, _⟩ := g5.bt.form; have hb5 := g5.bt; rw [hv5] at hb5; obtain ⟨bb5, oo5, ha5, _⟩ := hb5.cell (by have := HLA.out; omega); rw [ha5] at hv5 hb5; rw [hv5]; have hcp := copy_zero sz _ cap5 HA w5 hb5 (by have := HLA.out; have := HBL.out; omega) w3'.heap.size (by rw [HZ.out]; exact RB.out); obtain ⟨CR, hCR⟩ : ∃ CR, ((HA ++ List.replicate (sz - HA.length) 0).map U8).toArray = CR := ⟨_, rfl⟩; rw [hCR] at hcp; have HCR := hidden hCR; clear hCR; have RF := hidden (setRow_heap w5 w3'.heap.size _ CR 5 (0, 0) RB.out); have KF := hidden (same_setRow ((HS0.out.trans g5.same)) (g := w3'.heap.size) (by have := HS0.out.size; have := S3.out; omega) CR); clear g5 r5 hb5))
      go_returns
      refine ⟨_, rfl, HR.out _ _ ?_ KF.out⟩
      rw [HFin.out]
      exact bt_of_blk (by rw [HCR.out]; exact RF.out) (by rw [List.length_append, List.length_replicate]; have := HLA.out; have := HBL.out; omega)
end Go.Proofs.YtpjgghalnkfdkaaDoor
