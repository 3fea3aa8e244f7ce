/- inode: InodeNobody's awake; what inode's calls tell of no tree. (Made by mkin7.py.) -/
import Derived.Test.YtmlibjohhgpniaaGreatDoorIn6
namespace Go.Proofs.YtmlibjohhgpniaaGreatDoor
open Go.RowKit
set_option linter.unusedVariables false
set_option linter.unusedSimpArgs false
set_option maxRecDepth 100000 in
theorem func_nil2 : ∀ (W : World) (n : FuncId) (b : Array Value), (binOp .eql 77 (.func (.func n) #[] b) Value.nilFunc).run Tryz.prog W = .ok (.bool false) W := fun W n b => by
  first | kernel_rfl | (simp [binOp, Op.equal, Op.maxDepth, go_sem]; rw [show (10000 : Nat) = 9999 + 1 from rfl]; simp [Op.equalIn, go_sem])
set_option maxHeartbeats 2000000 in
set_option maxRecDepth 100000 in
theorem iawake (w : World) : Calls Tryz.prog 31 #[] w fun e w' => e = .returned (.bool true) ∧ Same w w' := by
  have hfn := func_nil
  have hfn2 := func_nil2
  have HT := hidden new_any
  have HS := hidden (fun o W => scan_fn o ⟨#[]⟩ ⟨#[]⟩ W)
  have HA := hidden (fun W o h => all_no W o h)
  have HN1 : Hid (∀ W g p , LT W g p nd0 none none none 0 0 0 0 0 0 → Calls Tryz.prog 29 #[.pointer (some ⟨g, 0, none⟩), .bool true, .int .i64 1] W fun e w' => ∃ u, e = .returned u ∧ ∃ g' q z1 z2 z3 d1 d2 d3, u = .tuple #[.pointer (some ⟨g', 0, none⟩), .agg #[.int .i64 1, .bool true, .int .i64 0, .int .i64 0, .int .i64 1], .int .i64 0] ∧ LT w' g' q im2 z1 z2 z3 2 d1 2 d2 0 d3 ∧ Same W w') := hidden (fun W g p  h => (inew_true nd0 none none none 0 0 0 0 0 0 1 1 (by decide) (by decide) (by unfold parOk; simp) (by decide) rfl (fit_D (by decide +kernel)).1 ctok0 ip1 ip2 rfl W g p h).mono fun e w' ⟨u, he, hu⟩ => ⟨u, he, hu.out⟩)
  have HN2 : Hid (∀ W g p z1 z2 z3 d1 d2 d3, LT W g p im2 z1 z2 z3 2 d1 2 d2 0 d3 → Calls Tryz.prog 29 #[.pointer (some ⟨g, 0, none⟩), .bool false, .int .i64 0] W fun e w' => ∃ u, e = .returned u ∧ ∃ g' q z1 z2 z3 d1 d2 d3, u = .tuple #[.pointer (some ⟨g', 0, none⟩), .agg #[.int .i64 2, .bool false, .int .i64 0, .int .i64 0, .int .i64 0], .int .i64 0] ∧ LT w' g' q im4 z1 z2 z3 3 d1 3 d2 0 d3 ∧ Same W w') := hidden (fun W g p z1 z2 z3 d1 d2 d3 h => (inew_false im2 z1 z2 z3 2 d1 2 d2 0 d3 2 0 (by decide) (by decide) (by unfold parOk; simp) (by decide) rfl (fit_D (by decide +kernel)).1 ctok_im2 ip3 ip4 rfl W g p h).mono fun e w' ⟨u, he, hu⟩ => ⟨u, he, hu.out⟩)
  have HN3 : Hid (∀ W g p z1 z2 z3 d1 d2 d3, LT W g p im3 z1 z2 z3 2 d1 2 d2 0 d3 → Calls Tryz.prog 29 #[.pointer (some ⟨g, 0, none⟩), .bool false, .int .i64 0] W fun e w' => ∃ u, e = .returned u ∧ ∃ g' q z1 z2 z3 d1 d2 d3, u = .tuple #[.pointer (some ⟨g', 0, none⟩), .agg #[.int .i64 3, .bool false, .int .i64 0, .int .i64 0, .int .i64 0], .int .i64 0] ∧ LT w' g' q im7 z1 z2 z3 3 d1 3 d2 0 d3 ∧ Same W w') := hidden (fun W g p z1 z2 z3 d1 d2 d3 h => (inew_false im3 z1 z2 z3 2 d1 2 d2 0 d3 3 0 (by decide) (by decide) (by unfold parOk; simp) (by decide) rfl (fit_D (by decide +kernel)).1 ctok_im3 ip6 ip7 rfl W g p h).mono fun e w' ⟨u, he, hu⟩ => ⟨u, he, hu.out⟩)
  have HR : Hid (∀ W g p z1 z2 z3 d1 d2 d3, LT W g p im4 z1 z2 z3 3 d1 3 d2 0 d3 → Calls Tryz.prog 30 #[.pointer (some ⟨g, 0, none⟩), .int .i64 2] W fun e w' => ∃ u, e = .returned u ∧ ∃ g' q z1 z2 z3 d1 d2 d3, u = .tuple #[.pointer (some ⟨g', 0, none⟩), .int .i64 0] ∧ LT w' g' q im3 z1 z2 z3 2 d1 2 d2 0 d3 ∧ Same W w') := hidden (fun W g p z1 z2 z3 d1 d2 d3 h => (iremove im4 z1 z2 z3 3 d1 3 d2 0 d3 2 (by decide) (by decide) id5 (iV 1 0) (by rw [cnt_D]; rfl) W g p h).mono fun e w' ⟨u, he, hu⟩ => ⟨u, he, hu.out⟩)
  have tA : True := trivial
  have tN : True := trivial
  go_enter Tryz.func31, Tryz.ntmps31
  go_wp2_with (first
    | (go_at_call 48; refine (HT.out _).mono ?_; rintro e w1 ⟨u, rfl, ⟨g, p, rfl, hl, q1⟩⟩; have L1 := hidden hl; have K1 := hidden q1; clear hl q1)
    | (go_at_call 14; refine (HS.out _ _).mono ?_; rintro e w2 ⟨u, rfl, ⟨B, rfl, _, _, _, _, q2⟩⟩; have L2 := hidden (L1.out.same q2); have K2 := hidden (K1.out.trans q2); clear q2)
    | (go_at_call 38; have _t := tA; refine (HA.out _ _ (.inr ⟨g, p, rfl, L2.out⟩)).mono ?_; rintro e w3 ⟨u, rfl, ⟨B3, rfl, _, q3⟩⟩; have L3 := hidden (L2.out.same q3); have K3 := hidden (K2.out.trans q3); clear q3 tA _t)
    | (go_at_call 38; refine (HA.out _ none (.inl rfl)).mono ?_; rintro e w4 ⟨u, rfl, ⟨B4, rfl, _, q4⟩⟩; have L4 := hidden (L3.out.same q4); have K4 := hidden (K3.out.trans q4); clear q4)
    | (go_at_call 29; have _t := tN; refine (HN1.out _ _ _ L4.out).mono ?_; rintro e w5 ⟨u, rfl, g5, p5, a1, a2, a3, c1, c2, c3, rfl, hl, q5⟩; have L5 := hidden (hl.same (same_alloc _ (.cells #[.int .i64 1, .bool true, .int .i64 0, .int .i64 0, .int .i64 1] 62))); have K5 := hidden (K4.out.trans (q5.alloc (.cells #[.int .i64 1, .bool true, .int .i64 0, .int .i64 0, .int .i64 1] 62))); have A5 := hidden (blk_new w5 (.cells #[.int .i64 1, .bool true, .int .i64 0, .int .i64 0, .int .i64 1] 62)); have tM : True := trivial; clear hl q5 tN _t)
    | (go_at_call 29; have _t := tM; refine (HN2.out _ _ _ _ _ _ _ _ _ L5.out).mono ?_; rintro e w6 ⟨u, rfl, g6, p6, b1, b2, b3, e1, e2, e3, rfl, hl, q6⟩; have q6' := q6.alloc (.cells #[.int .i64 2, .bool false, .int .i64 0, .int .i64 0, .int .i64 0] 62); have L6 := hidden (hl.same (same_alloc _ (.cells #[.int .i64 2, .bool false, .int .i64 0, .int .i64 0, .int .i64 0] 62))); have K6 := hidden (K5.out.trans q6'); have A6 := hidden (blk_kept q6' (fun h => h) A5.out); have B6 := hidden (blk_new w6 (.cells #[.int .i64 2, .bool false, .int .i64 0, .int .i64 0, .int .i64 0] 62)); clear hl q6 q6' tM _t)
    | (go_at_call 30; refine (HR.out _ _ _ _ _ _ _ _ _ L6.out).mono ?_; rintro e w7 ⟨u, rfl, g7, p7, x1, x2, x3, f1, f2, f3, rfl, hl, q7⟩; have L7 := hidden hl; have K7 := hidden (K6.out.trans q7); have A7 := hidden (blk_kept q7 (fun h => h) A6.out); have B7 := hidden (blk_kept q7 (fun h => h) B6.out); clear hl q7)
    | (go_at_call 29; refine (HN3.out _ _ _ _ _ _ _ _ _ L7.out).mono ?_; rintro e w8 ⟨u, rfl, g8, p8, y1, y2, y3, h1, h2, h3, rfl, hl, q8⟩; have q8' := q8.alloc (.cells #[.int .i64 3, .bool false, .int .i64 0, .int .i64 0, .int .i64 0] 62); have K8 := hidden (K7.out.trans q8'); have A8 := blk_kept q8' (fun h => h) A7.out; have B8 := blk_kept q8' (fun h => h) B7.out; have u0 := blk_cell (j := 0) A8; have u1 := blk_cell (j := 1) A8; have u2 := blk_cell (j := 2) A8; have u3 := blk_cell (j := 3) A8; have u4 := blk_cell (j := 4) A8; have v0 := blk_cell (j := 0) B8; clear hl q8 q8' A8 B8))
  go_returns
  exact ⟨rfl, K8.out⟩
end Go.Proofs.YtmlibjohhgpniaaGreatDoor
