/- script: the program's PrintResult, walked. -/
import Derived.Test.YtndfgpelioipcaaDoorSc22
namespace Go.Proofs.YtndfgpelioipcaaDoor
open Go.RowKit
set_option linter.unusedVariables false
set_option linter.unusedSimpArgs false
set_option maxHeartbeats 4000000 in
set_option maxRecDepth 100000 in
theorem printResult_any (o : OpR) (r : ResR) (hr : r.Ok) (a : Option Addr) (n c : Nat) (w : World) (T : Tb w) (row : Row w (.slice a n c) (TS (r.na.map BA))) : Calls Tryd.prog 18 #[.agg o.cs, .agg (r.cs a n c)] w fun e w' => e = .returned (.string (BA (resL o.kd r))) ∧ Same w w' := by
  have hSa : Same w ((w.alloc (.cells o.cs 28)).alloc (.cells (r.cs a n c) 39)) := (same_alloc _ _).alloc _
  have hOa : OpB ((w.alloc (.cells o.cs 28)).alloc (.cells (r.cs a n c) 39)) w.heap.size o := blk_alloc (blk_new w _) _
  have hRa : ((w.alloc (.cells o.cs 28)).alloc (.cells (r.cs a n c) 39)).heap[w.heap.size + 1]? = some (.cells (r.cs a n c) 39 (0, 0)) := by
    have h := blk_new (w.alloc (.cells o.cs 28)) (.cells (r.cs a n c) 39)
    rw [show (w.alloc (.cells o.cs 28)).heap.size = w.heap.size + 1 by simp] at h
    exact h
  have HSa := hidden hSa
  have HRa := hidden hRa
  obtain ⟨r0, r1, r2, r3, r4, r5, r6, r7, r8⟩ := rcel hRa
  have o0 : ((w.alloc (.cells o.cs 28)).alloc (.cells (r.cs a n c) 39)).cell? ⟨w.heap.size, 0, none⟩ = some (.int .i64 o.kd) := blk_cell hOa
  have HOk := hidden hr
  have HRow := hidden (row.same hSa)
  have HT := hidden (T.same hSa)
  have HNb := hidden (fun (z : Int) (hz : I64 z) (a : Option Addr) (n c : Nat) (W : World) (T : Tb W) (q : Row W (.slice a n c) (IS [z])) => numbers_any [z] a n c W T q (fun y hy => by rcases List.mem_singleton.1 hy with rfl; exact hz) (by have := q.len.1; rw [IS_len] at this; simp at this; omega))
  simp only [List.map_cons, List.map_nil, jn_one] at HNb
  have HQ := hidden quote_any
  have HSt := hidden (fun W (k : Same w W) => statLine_any r hr W (T.same k))
  have HNl := hidden (fun W (k : Same w W) => namesLine_any r.na a n c W (row.same k) hr.na)
  have HJ := hidden joined_any
  have hRi := fun (z : Int) => row_ints ((w.alloc (.cells o.cs 28)).alloc (.cells (r.cs a n c) 39)) [z] 1 rfl (by decide)
  rw [show ((w.alloc (.cells o.cs 28)).alloc (.cells (r.cs a n c) 39)).heap.size = w.heap.size + 1 + 1 by simp] at hRi
  have HRi := hidden hRi
  have HIl := hidden (fun (z : Int) (hz : I64 z) => Lib.itoa_length_le z hz.1 hz.2)
  clear hSa hOa hRa hr row T hRi
  by_cases h0 : r.er = 0
  rotate_left
  · have hR := hidden (show BA (resL o.kd r) = BA (jn [[101, 114, 114, 111, 114], Lib.itoa r.er]) by unfold resL; rw [if_pos h0, jn_cons, jn_one]; rfl)
    have d0 : (r.er == 0) = false := by simpa using h0
    have d1 : (r.er != 0) = true := by rw [bne, d0]; rfl
    have HN1 := hidden (fun W T q => HNb.out r.er HOk.out.er (some ⟨w.heap.size + 1 + 1, 0, none⟩) 1 1 W T q)
    have HR1 := hidden (HRi.out r.er)
    have hil := HIl.out r.er HOk.out.er
    rw [hR.out]
    obtain ⟨X1, hX⟩ : ∃ X, X = Lib.itoa r.er := ⟨_, rfl⟩
    rw [← hX] at HN1 hil ⊢
    clear hX hR
    have HJn := hidden (fun (a : Option Addr) (n c : Nat) (W : World) (q : Row W (.slice a n c) (TS ([[101, 114, 114, 111, 114], X1].map BA))) => HJ.out [[101, 114, 114, 111, 114], X1] a n c W q (by simp [wsum]; omega))
    obtain ⟨y1, hy1⟩ : ∃ y, y = BA X1 := ⟨_, rfl⟩
    rw [← hy1] at HN1
    have HY1 := hidden hy1
    clear hy1 hil
    generalize BA (jn [[101, 114, 114, 111, 114], X1]) = z at *
    go_enter Tryd.func18, Tryd.ntmps18
    go_wp2_with (first
      | (go_at_call 33; go_must (refine (HN1.out _ (HT.out.same (same_alloc _ _)) HR1.out).mono ?_; rintro e w1 ⟨rfl, k1⟩; have K1 := hidden ((HSa.out.trans (same_alloc _ _)).trans k1); clear k1; have R2 : Hid (Row (w1.alloc (.cells #[.string ⟨#[101, 114, 114, 111, 114]⟩, .string y1] 9)) (.slice (some ⟨w1.heap.size, 0, none⟩) 2 2) (TS ([[101, 114, 114, 111, 114], X1].map BA))) := hidden (by have h := row_strs w1 [[101, 114, 114, 111, 114], X1] 2 rfl (by decide); rw [HY1.out]; exact h)))
      | (go_at_call 32; go_must (refine (HJn.out _ 2 2 _ R2.out).mono ?_; rintro e w2 ⟨rfl, k2⟩; have K2 := hidden ((K1.out.alloc _).trans k2); clear k2)))
    go_returns
    exact ⟨rfl, K2.out⟩
  have d0 : (r.er == 0) = true := by simpa using h0
  have d1 : (r.er != 0) = false := by rw [bne, d0]; rfl
  have e0 : ¬ r.er ≠ 0 := fun h => h h0
  have HE := hidden (fun k => (show resL k r = if k = 1 then Lib.itoa r.hd else if k = 3 then quoteL r.da else if k = 4 then Lib.itoa r.nn else if k = 6 then statL r else if k = 7 then namesL r.na else [111, 107] by unfold resL; rw [if_neg e0]))
  clear e0
  generalize o.kd = kd at *
  by_cases k1 : kd = 1
  · subst k1
    have hR := hidden (show resL 1 r = Lib.itoa r.hd by rw [HE.out]; rw [if_pos rfl])
    have HN1 := hidden (HNb.out r.hd HOk.out.hd (some ⟨w.heap.size + 1 + 1, 0, none⟩) 1 1)
    have HR1 := hidden (HRi.out r.hd)
    rw [hR.out]
    go_enter Tryd.func18, Tryd.ntmps18
    go_wp2_with (go_at_call 33; go_must (refine (HN1.out _ (HT.out.same (same_alloc _ _)) HR1.out).mono ?_; rintro e w1 ⟨rfl, k1⟩; have K1 := hidden ((HSa.out.trans (same_alloc _ _)).trans k1); clear k1))
    go_returns
    exact ⟨rfl, K1.out⟩
  have e1 : (kd == 1) = false := by simpa using k1
  by_cases k3 : kd = 3
  · subst k3
    have hR := hidden (show resL 3 r = quoteL r.da by rw [HE.out]; rw [if_neg (by decide), if_pos rfl])
    have HN1 := hidden (HQ.out (BA r.da) (by rw [BA_size]; have := HOk.out.da; omega))
    rw [BA_data] at HN1
    rw [hR.out]
    go_enter Tryd.func18, Tryd.ntmps18
    go_wp2_with (go_at_call 9; refine (HN1.out _).mono ?_; rintro e w1 ⟨rfl, k1⟩; have K1 := hidden (HSa.out.trans k1); clear k1)
    go_returns
    exact ⟨rfl, K1.out⟩
  have e3 : (kd == 3) = false := by simpa using k3
  by_cases k4 : kd = 4
  · subst k4
    have hR := hidden (show resL 4 r = Lib.itoa r.nn by rw [HE.out]; rw [if_neg (by decide), if_neg (by decide), if_pos rfl])
    have HN1 := hidden (HNb.out r.nn HOk.out.nn (some ⟨w.heap.size + 1 + 1, 0, none⟩) 1 1)
    have HR1 := hidden (HRi.out r.nn)
    rw [hR.out]
    go_enter Tryd.func18, Tryd.ntmps18
    go_wp2_with (go_at_call 33; go_must (refine (HN1.out _ (HT.out.same (same_alloc _ _)) HR1.out).mono ?_; rintro e w1 ⟨rfl, k1⟩; have K1 := hidden ((HSa.out.trans (same_alloc _ _)).trans k1); clear k1))
    go_returns
    exact ⟨rfl, K1.out⟩
  have e4 : (kd == 4) = false := by simpa using k4
  by_cases k6 : kd = 6
  · subst k6
    have hR := hidden (show resL 6 r = statL r by rw [HE.out]; rw [if_neg (by decide), if_neg (by decide), if_neg (by decide), if_pos rfl])
    have HN1 := hidden (fun W k => HSt.out W k)
    skip
    rw [hR.out]
    go_enter Tryd.func18, Tryd.ntmps18
    go_wp2_with (go_at_call 34; refine (HN1.out _ HSa.out).mono ?_; rintro e w1 ⟨rfl, k1⟩; have K1 := hidden (HSa.out.trans k1); clear k1)
    go_returns
    exact ⟨rfl, K1.out⟩
  have e6 : (kd == 6) = false := by simpa using k6
  by_cases k7 : kd = 7
  · subst k7
    have hR := hidden (show resL 7 r = namesL r.na by rw [HE.out]; rw [if_neg (by decide), if_neg (by decide), if_neg (by decide), if_neg (by decide), if_pos rfl])
    have HN1 := hidden (fun W k => HNl.out W k)
    skip
    rw [hR.out]
    go_enter Tryd.func18, Tryd.ntmps18
    go_wp2_with (go_at_call 35; refine (HN1.out _ HSa.out).mono ?_; rintro e w1 ⟨rfl, k1⟩; have K1 := hidden (HSa.out.trans k1); clear k1)
    go_returns
    exact ⟨rfl, K1.out⟩
  have e7 : (kd == 7) = false := by simpa using k7
  have hR := hidden (show resL kd r = [111, 107] by rw [HE.out, if_neg k1, if_neg k3, if_neg k4, if_neg k6, if_neg k7])
  rw [hR.out]
  go_enter Tryd.func18, Tryd.ntmps18
  go_wp2
  go_returns
  exact ⟨rfl, HSa.out⟩
end Go.Proofs.YtndfgpelioipcaaDoor
