/- node: Split of an inner node. (Made by mkn45.py.) -/
import Derived.Test.YtpjgghalnkfdkaaDoorN45
namespace Go.Proofs.YtpjgghalnkfdkaaDoor
open Go.RowKit
set_option linter.unusedVariables false
set_option linter.unusedSimpArgs false
set_option maxHeartbeats 2000000 in
set_option maxRecDepth 100000 in
theorem split_inner (n : Nd) (a1 a2 a3 : Option Addr) (k1 c1 k2 c2 k3 c3 : Nat) (i most : Nat) (w : World) (r1 : Row w (.slice a1 k1 c1) (TS n.keys)) (r2 : Row w (.slice a2 k2 c2) (TS n.vals)) (r3 : Row w (.slice a3 k3 c3) (IS n.kids)) (hb : n.Bd) (hb1 : n.keys.length ≤ 8796093022208) (hb2 : n.vals.length ≤ 8796093022208) (hb3 : n.kids.length ≤ 17592186044416) (hl : n.leaf = false) (hc : n.chk = 0) (hm : n.keys.length = most + 2) (hA : n.At most i) :
    Calls Tryd.prog 27 #[.agg #[.bool n.leaf, .slice a1 k1 c1, .slice a2 k2 c2, .slice a3 k3 c3]] w fun e w' => ∃ u, e = .returned u ∧ SpR (n.sub 0 i) (n.keys.getD i ⟨#[]⟩) (n.sub (i + 1) n.keys.length) 0 w u w' := by
  have HCk := hidden (fun W (k : Same w W) => check_any n a1 a2 a3 k1 c1 k2 c2 k3 c3 W (r1.same k) (r2.same k) (r3.same k) hb)
  have hF : n.Fine := fine_part (chk_part hc).1
  have HHf := hidden (fun W (k : Same w W) => half_int n a1 a2 a3 k1 c1 k2 c2 k3 c3 most i W (r1.same k) (r2.same k) (r3.same k) hF (by omega) hb1 hA)
  have hi1 := hA.lo
  have hi2 := hA.hi
  have hik : i < n.keys.length := by omega
  obtain ⟨bk, off, rfl, hck⟩ := r1.text hik
  have e1 := r1.tl
  have e2 := r2.tl
  have e3 := r3.il
  have hlen := (hF.inner hl).2
  have HP1 : Hid (∀ W, Same w W → ∀ x y : Int, x = ((0 : Nat) : Int) → y = ((i : Nat) : Int) → Calls Tryd.prog 54 #[.agg #[.bool false, .slice (some ⟨bk, off, none⟩) k1 c1, .slice a2 k2 c2, .slice a3 k3 c3], .int .i64 x, .int .i64 y] W fun e w' => ∃ u, e = .returned u ∧ PtR (n.sub 0 i) W u w') := hidden (fun W (k : Same w W) x y hx hy => by subst hx; subst hy; have := part_inner n (some ⟨bk, off, none⟩) a2 a3 k1 c1 k2 c2 k3 c3 0 i W (r1.same k) (r2.same k) (r3.same k) hl (by omega) (by omega) (by omega) hb1 hb3; rw [hl] at this; exact this)
  have HP2 : Hid (∀ W, Same w W → ∀ x y : Int, x = (((i + 1) : Nat) : Int) → y = ((k1 : Nat) : Int) → Calls Tryd.prog 54 #[.agg #[.bool false, .slice (some ⟨bk, off, none⟩) k1 c1, .slice a2 k2 c2, .slice a3 k3 c3], .int .i64 x, .int .i64 y] W fun e w' => ∃ u, e = .returned u ∧ PtR (n.sub (i + 1) k1) W u w') := hidden (fun W (k : Same w W) x y hx hy => by subst hx; subst hy; have := part_inner n (some ⟨bk, off, none⟩) a2 a3 k1 c1 k2 c2 k3 c3 (i + 1) k1 W (r1.same k) (r2.same k) (r3.same k) hl (by omega) (by omega) (by omega) hb1 hb3; rw [hl] at this; exact this)
  have hkb : bk < w.heap.size := World.block_lt_of_cell? w _ hck
  have HCK := hidden hck
  rw [getD_at hik]
  rw [e1]
  generalize n.keys[i] = kx at *
  generalize n.sub 0 i = m1 at *
  generalize n.sub (i + 1) k1 = m2 at *
  rw [hc] at HCk
  rw [hl] at HCk HHf ⊢
  have hk4 : (i : Int) < k1 := by omega
  have hk5 : (k1 : Int) ≤ 8796093022208 := by omega
  have hk2 : ¬ ((k1 : Int) - 1 - 1 < 1) := by omega
  have hk3 : ¬ ((k1 : Int) ≤ 2) := by omega
  have hk6 : (k1 : Int) = (most : Int) + 2 := by omega
  have HK6 := hidden hk6
  clear r1 r2 r3 hb hF hA hl hc hlen e1 e2 e3 hb1 hb2 hb3 hm hik hck hk6
  have bx := blk_alloc (blk_alloc (blk_new w (.cells #[.bool false, .slice (some ⟨bk, off, none⟩) k1 c1, .slice a2 k2 c2, .slice a3 k3 c3] 25)) (.cells #[.bool false, .slice none 0 0, .slice none 0 0, .slice none 0 0] 25)) (.cells #[.bool false, .slice none 0 0, .slice none 0 0, .slice none 0 0] 25)
  have by' := blk_alloc (blk_new (w.alloc (.cells #[.bool false, .slice (some ⟨bk, off, none⟩) k1 c1, .slice a2 k2 c2, .slice a3 k3 c3] 25)) (.cells #[.bool false, .slice none 0 0, .slice none 0 0, .slice none 0 0] 25)) (.cells #[.bool false, .slice none 0 0, .slice none 0 0, .slice none 0 0] 25)
  have bz' := blk_new ((w.alloc (.cells #[.bool false, .slice (some ⟨bk, off, none⟩) k1 c1, .slice a2 k2 c2, .slice a3 k3 c3] 25)).alloc (.cells #[.bool false, .slice none 0 0, .slice none 0 0, .slice none 0 0] 25)) (.cells #[.bool false, .slice none 0 0, .slice none 0 0, .slice none 0 0] 25)
  rw [show (w.alloc (.cells #[.bool false, .slice (some ⟨bk, off, none⟩) k1 c1, .slice a2 k2 c2, .slice a3 k3 c3] 25)).heap.size = w.heap.size + 1 by simp] at by'
  rw [show ((w.alloc (.cells #[.bool false, .slice (some ⟨bk, off, none⟩) k1 c1, .slice a2 k2 c2, .slice a3 k3 c3] 25)).alloc (.cells #[.bool false, .slice none 0 0, .slice none 0 0, .slice none 0 0] 25)).heap.size = w.heap.size + 2 by simp] at bz'
  have K0 := hidden (((same_alloc w (.cells #[.bool false, .slice (some ⟨bk, off, none⟩) k1 c1, .slice a2 k2 c2, .slice a3 k3 c3] 25)).alloc (.cells #[.bool false, .slice none 0 0, .slice none 0 0, .slice none 0 0] 25)).alloc (.cells #[.bool false, .slice none 0 0, .slice none 0 0, .slice none 0 0] 25))
  have zA : (((w.alloc (.cells #[.bool false, .slice (some ⟨bk, off, none⟩) k1 c1, .slice a2 k2 c2, .slice a3 k3 c3] 25)).alloc (.cells #[.bool false, .slice none 0 0, .slice none 0 0, .slice none 0 0] 25)).alloc (.cells #[.bool false, .slice none 0 0, .slice none 0 0, .slice none 0 0] 25)).heap.size = w.heap.size + 3 := by simp
  have BX := hidden bx
  have BY := hidden by'
  have BZ := hidden bz'
  clear bx by' bz'
  go_enter Tryd.func27, Tryd.ntmps27
  go_wp2_with (first
    | (go_at_call 13; refine (HCk.out _ K0.out).mono ?_; rintro e w1 ⟨rfl, q1⟩; have BX1 := hidden (blk_kept q1 (fun h => h) BX.out); have BY1 := hidden (blk_kept q1 (fun h => h) BY.out); have BZ1 := hidden (blk_kept q1 (fun h => h) BZ.out); have K1 := hidden q1; have zK1 := q1.size; have x0 := blk_cell (j := 0) BX1.out; have x1 := blk_cell (j := 1) BX1.out; have x2 := blk_cell (j := 2) BX1.out; have x3 := blk_cell (j := 3) BX1.out; simp at x0 x1 x2 x3; have y0 := blk_cell (j := 0) BY1.out; have y1 := blk_cell (j := 1) BY1.out; have y2 := blk_cell (j := 2) BY1.out; have y3 := blk_cell (j := 3) BY1.out; simp at y0 y1 y2 y3; have z0 := blk_cell (j := 0) BZ1.out; have z1 := blk_cell (j := 1) BZ1.out; have z2 := blk_cell (j := 2) BZ1.out; have z3 := blk_cell (j := 3) BZ1.out; simp at z0 z1 z2 z3; have yf := (fun j => blk_free (j := j) BY1.out); have zf := (fun j => blk_free (j := j) BZ1.out); clear q1)
    | (go_at_call 53; refine (HHf.out _ (K0.out.trans K1.out) _ (by have := HK6.out; omega)).mono ?_; rintro e w2 ⟨rfl, q2⟩; have K2 := hidden (K1.out.trans q2); clear q2 x0 x1 x2 x3 y0 y1 y2 y3 z0 z1 z2 z3 yf zf))
  clear BX1 BY1 BZ1
  generalize (((w.alloc (.cells #[.bool false, .slice (some ⟨bk, off, none⟩) k1 c1, .slice a2 k2 c2, .slice a3 k3 c3] 25)).alloc (.cells #[.bool false, .slice none 0 0, .slice none 0 0, .slice none 0 0] 25)).alloc (.cells #[.bool false, .slice none 0 0, .slice none 0 0, .slice none 0 0] 25)) = WA at *
  have hmx : Tryd.prog.follows .mixedOrders = true := by kernel_rfl
  have hck2 := K0.out.cell (fun h => h) HCK.out
  have HS : Hid (∀ W, Kept (fun k => k = w.heap.size + 1 ∨ k = w.heap.size + 2) WA W → (fun W : World => W.cell? ⟨w.heap.size, 0, none⟩ = some (.bool false) ∧ W.cell? ⟨w.heap.size, 1, none⟩ = some (.slice (some ⟨bk, off, none⟩) k1 c1) ∧ W.cell? ⟨w.heap.size, 2, none⟩ = some (.slice a2 k2 c2) ∧ W.cell? ⟨w.heap.size, 3, none⟩ = some (.slice a3 k3 c3) ∧ W.cell? ⟨bk, off + i, none⟩ = some (.string kx)) W) := hidden (fun W kk => ⟨(blk_cell (blk_kept kk (fun h => by omega) BX.out)).trans rfl, (blk_cell (blk_kept kk (fun h => by omega) BX.out)).trans rfl, (blk_cell (blk_kept kk (fun h => by omega) BX.out)).trans rfl, (blk_cell (blk_kept kk (fun h => by omega) BX.out)).trans rfl, kk.cell (fun h => by change bk = _ ∨ bk = _ at h; omega) hck2⟩)
  clear hck2
  have HW : Hid (∀ W, Same WA W → Kept (fun k => k = w.heap.size + 1 ∨ k = w.heap.size + 2) WA W) := hidden (fun W k => k.mono (fun i _ h => False.elim h))
  refine wp_region_held_drew (S := (fun W : World => W.cell? ⟨w.heap.size, 0, none⟩ = some (.bool false) ∧ W.cell? ⟨w.heap.size, 1, none⟩ = some (.slice (some ⟨bk, off, none⟩) k1 c1) ∧ W.cell? ⟨w.heap.size, 2, none⟩ = some (.slice a2 k2 c2) ∧ W.cell? ⟨w.heap.size, 3, none⟩ = some (.slice a3 k3 c3) ∧ W.cell? ⟨bk, off + i, none⟩ = some (.string kx))) hmx (HS.out _ (HW.out _ K2.out.drew)) (fun _ => ?_)
  refine wpAnyH_take (i := 0) (v := (.agg #[.bool false, .slice (some ⟨bk, off, none⟩) k1 c1, .slice a2 k2 c2, .slice a3 k3 c3])) rfl (by kernel_rfl) (by kernel_rfl) (by kernel_rfl) (fun _ _ _ h => h) (Or.inl ⟨by rfl, (by intro w hSw; obtain ⟨t0, t1, t2, t3, t4⟩ := hSw; go_simp; try (first | rfl | (rw [IntKind.wrap_i64]; omega)))⟩) (HS.out _ (HW.out _ K2.out.drew)) ?_; (try go_simp)
  refine wpAnyH_take (i := 1) (v := (.int .i64 i)) rfl (by kernel_rfl) (by kernel_rfl) (by kernel_rfl) (fun _ _ _ h => h) (Or.inl ⟨by rfl, (by intro w hSw; obtain ⟨t0, t1, t2, t3, t4⟩ := hSw; go_simp; try (first | rfl | (rw [IntKind.wrap_i64]; omega)))⟩) (HS.out _ (HW.out _ K2.out.drew)) ?_; (try go_simp)
  refine wpAnyH_take (i := 3) (v := (.pointer (some ⟨w.heap.size, 1, none⟩))) rfl (by kernel_rfl) (by kernel_rfl) (by kernel_rfl) (fun _ _ _ h => h) (Or.inl ⟨by rfl, (by intro w hSw; obtain ⟨t0, t1, t2, t3, t4⟩ := hSw; go_simp; try (first | rfl | (rw [IntKind.wrap_i64]; omega)))⟩) (HS.out _ (HW.out _ K2.out.drew)) ?_; (try go_simp)
  refine wpAnyH_take (i := 4) (v := (.slice (some ⟨bk, off, none⟩) k1 c1)) rfl (by kernel_rfl) (by kernel_rfl) (by kernel_rfl) (fun _ _ _ h => h) (Or.inl ⟨by rfl, (by intro w hSw; obtain ⟨t0, t1, t2, t3, t4⟩ := hSw; go_simp; try (first | rfl | (rw [IntKind.wrap_i64]; omega)))⟩) (HS.out _ (HW.out _ K2.out.drew)) ?_; (try go_simp)
  refine wpAnyH_take (i := 5) (v := (.int .i64 i)) rfl (by kernel_rfl) (by kernel_rfl) (by kernel_rfl) (fun _ _ _ h => h) (Or.inl ⟨by rfl, (by intro w hSw; obtain ⟨t0, t1, t2, t3, t4⟩ := hSw; go_simp; try (first | rfl | (rw [IntKind.wrap_i64]; omega)))⟩) (HS.out _ (HW.out _ K2.out.drew)) ?_; (try go_simp)
  refine wpAnyH_take (i := 6) (v := (.pointer (some ⟨bk, off + i, none⟩))) rfl (by kernel_rfl) (by kernel_rfl) (by kernel_rfl) (fun _ _ _ h => h) (Or.inl ⟨by rfl, (by intro w hSw; obtain ⟨t0, t1, t2, t3, t4⟩ := hSw; go_simp; try (first | rfl | (rw [IntKind.wrap_i64]; omega)))⟩) (HS.out _ (HW.out _ K2.out.drew)) ?_; (try go_simp)
  refine wpAnyH_take (i := 7) (v := (.string kx)) rfl (by kernel_rfl) (by kernel_rfl) (by kernel_rfl) (fun _ _ _ h => h) (Or.inl ⟨by rfl, (by intro w hSw; obtain ⟨t0, t1, t2, t3, t4⟩ := hSw; go_simp; try (first | rfl | (rw [IntKind.wrap_i64]; omega)))⟩) (HS.out _ (HW.out _ K2.out.drew)) ?_; (try go_simp)
  refine wpAnyH_take (i := 8) (v := (.agg #[.bool false, .slice (some ⟨bk, off, none⟩) k1 c1, .slice a2 k2 c2, .slice a3 k3 c3])) rfl (by kernel_rfl) (by kernel_rfl) (by kernel_rfl) (fun _ _ _ h => h) (Or.inl ⟨by rfl, (by intro w hSw; obtain ⟨t0, t1, t2, t3, t4⟩ := hSw; go_simp; try (first | rfl | (rw [IntKind.wrap_i64]; omega)))⟩) (HS.out _ (HW.out _ K2.out.drew)) ?_; (try go_simp)
  refine wpAnyH_take (i := 9) (v := (.int .i64 i)) rfl (by kernel_rfl) (by kernel_rfl) (by kernel_rfl) (fun _ _ _ h => h) (Or.inl ⟨by rfl, (by intro w hSw; obtain ⟨t0, t1, t2, t3, t4⟩ := hSw; go_simp; try (first | rfl | (rw [IntKind.wrap_i64]; omega)))⟩) (HS.out _ (HW.out _ K2.out.drew)) ?_; (try go_simp)
  refine wpAnyH_take (i := 10) (v := (.int .i64 1)) rfl (by kernel_rfl) (by kernel_rfl) (by kernel_rfl) (fun _ _ _ h => h) (Or.inl ⟨by rfl, (by intro w hSw; obtain ⟨t0, t1, t2, t3, t4⟩ := hSw; go_simp; try (first | rfl | (rw [IntKind.wrap_i64]; omega)))⟩) (HS.out _ (HW.out _ K2.out.drew)) ?_; (try go_simp)
  refine wpAnyH_take (i := 11) (v := (.int .i64 ((i : Int) + 1))) rfl (by kernel_rfl) (by kernel_rfl) (by kernel_rfl) (fun _ _ _ h => h) (Or.inl ⟨by rfl, (by intro w hSw; obtain ⟨t0, t1, t2, t3, t4⟩ := hSw; go_simp; try (first | rfl | (rw [IntKind.wrap_i64]; omega)))⟩) (HS.out _ (HW.out _ K2.out.drew)) ?_; (try go_simp)
  refine wpAnyH_take (i := 12) (v := (.pointer (some ⟨w.heap.size, 1, none⟩))) rfl (by kernel_rfl) (by kernel_rfl) (by kernel_rfl) (fun _ _ _ h => h) (Or.inl ⟨by rfl, (by intro w hSw; obtain ⟨t0, t1, t2, t3, t4⟩ := hSw; go_simp; try (first | rfl | (rw [IntKind.wrap_i64]; omega)))⟩) (HS.out _ (HW.out _ K2.out.drew)) ?_; (try go_simp)
  refine wpAnyH_take (i := 13) (v := (.slice (some ⟨bk, off, none⟩) k1 c1)) rfl (by kernel_rfl) (by kernel_rfl) (by kernel_rfl) (fun _ _ _ h => h) (Or.inl ⟨by rfl, (by intro w hSw; obtain ⟨t0, t1, t2, t3, t4⟩ := hSw; go_simp; try (first | rfl | (rw [IntKind.wrap_i64]; omega)))⟩) (HS.out _ (HW.out _ K2.out.drew)) ?_; (try go_simp)
  refine wpAnyH_take (i := 14) (v := (.int .i64 k1)) rfl (by kernel_rfl) (by kernel_rfl) (by kernel_rfl) (fun _ _ _ h => h) (Or.inl ⟨by rfl, (by intro w hSw; obtain ⟨t0, t1, t2, t3, t4⟩ := hSw; go_simp; try (first | rfl | (rw [IntKind.wrap_i64]; omega)))⟩) (HS.out _ (HW.out _ K2.out.drew)) ?_; (try go_simp)
  refine wpAnyH_ready (rs := [2]) (by kernel_rfl) (by simp) ?_
  refine (AllReadyH.cons rfl (fun K hK => ?_) AllReadyH.nil)
  refine step_call rfl 54 #[.agg #[.bool false, .slice (some ⟨bk, off, none⟩) k1 c1, .slice a2 k2 c2, .slice a3 k3 c3], .int .i64 0, .int .i64 i] (fun u W => PtR m1 _ u W) (by go_simp; try rfl) (HP1.out _ (K0.out.trans K2.out.drew) _ _ rfl rfl) ?_
  rintro u w3 hu
  obtain ⟨ho1, k3'⟩ := hu.ex
  obtain ⟨xb, p1, p2, p3, l1, l2, l3, d1, d2, d3, rfl⟩ := ho1.four
  have K3 := hidden (show Same WA w3 from K2.out.drew.trans k3')
  have HO1 := hidden (ho1.low (C := w.heap.size + 3) (by have := K2.out.size; simp; omega))
  clear hu ho1 k3'
  refine hK.out _ _ (HS.out _ (HW.out _ K3.out)) (fun _ => ?_); clear hK K; (try go_simp)
  refine wpAnyH_ready (rs := [15]) (by kernel_rfl) (by simp) ?_
  refine (AllReadyH.cons rfl (fun K hK => ?_) AllReadyH.nil)
  refine step_call rfl 54 #[.agg #[.bool false, .slice (some ⟨bk, off, none⟩) k1 c1, .slice a2 k2 c2, .slice a3 k3 c3], .int .i64 ((i : Int) + 1), .int .i64 k1] (fun u W => PtR m2 _ u W) (by go_simp; try rfl) (HP2.out _ (K0.out.trans K3.out) _ _ (by simp) rfl) ?_
  rintro u w4 hu
  obtain ⟨ho2, k4'⟩ := hu.ex
  obtain ⟨yb, q1, q2, q3, m3, m4, m5, g1, g2, g3, rfl⟩ := ho2.four
  have K4 := hidden (K3.out.trans k4')
  have HO1' := hidden (HO1.out.kept k4' (fun _ _ h => h))
  have HO2 := hidden (ho2.low (C := w.heap.size + 3) (by have := K3.out.size; omega))
  clear hu ho2 k4' HO1
  refine hK.out _ _ (HS.out _ (HW.out _ K4.out)) (fun _ => ?_); clear hK K; (try go_simp)
  have BY4 := hidden (blk_kept K4.out (fun h => h) BY.out)
  have BZ4 := hidden (blk_kept K4.out (fun h => h) BZ.out)
  have e0 := blk_cell (j := 0) BY4.out; have e1 := blk_cell (j := 1) BY4.out; have e2 := blk_cell (j := 2) BY4.out; have e3 := blk_cell (j := 3) BY4.out; simp at e0 e1 e2 e3
  have f0 := blk_cell (j := 0) BZ4.out; have f1 := blk_cell (j := 1) BZ4.out; have f2 := blk_cell (j := 2) BZ4.out; have f3 := blk_cell (j := 3) BZ4.out; simp at f0 f1 f2 f3
  have ef := (fun j => blk_free (j := j) BY4.out)
  have ff := (fun j => blk_free (j := j) BZ4.out)
  refine wpAnyH_ready (rs := [16]) (by kernel_rfl) (by simp) ?_
  refine (AllReadyH.cons rfl (fun K hK => ?_) AllReadyH.nil)
  go_simp
  refine hK.out _ _ (HS.out _ ((HW.out _ K4.out).put4 (g := w.heap.size + 1) (.inl rfl) _ _ _ _)) (fun _ => ?_); clear hK K; (try go_simp)
  refine wpAnyH_ready (rs := [17]) (by kernel_rfl) (by simp) ?_
  refine (AllReadyH.cons rfl (fun K hK => ?_) AllReadyH.nil)
  go_simp
  refine hK.out _ _ (HS.out _ ((HW.out _ K4.out).put4 (g := w.heap.size + 1) (.inl rfl) _ _ _ _)) (fun _ => ?_); clear hK K; (try go_simp)
  refine wpAnyH_ready (rs := [18]) (by kernel_rfl) (by simp) ?_
  refine (AllReadyH.cons rfl (fun K hK => ?_) AllReadyH.nil)
  go_simp
  refine hK.out _ _ (HS.out _ (((HW.out _ K4.out).put4 (g := w.heap.size + 1) (.inl rfl) _ _ _ _).put4 (g := w.heap.size + 2) (.inr rfl) _ _ _ _)) (fun _ => ?_); clear hK K; (try go_simp)
  refine wpAnyH_ready (rs := [19]) (by kernel_rfl) (by simp) ?_
  refine (AllReadyH.cons rfl (fun K hK => ?_) AllReadyH.nil)
  go_simp
  refine hK.out _ _ (HS.out _ (((HW.out _ K4.out).put4 (g := w.heap.size + 1) (.inl rfl) _ _ _ _).put4 (g := w.heap.size + 2) (.inr rfl) _ _ _ _)) (fun _ => ?_); clear hK K; (try go_simp)
  refine wpAnyH_done (by kernel_rfl) ?_ _
  have kf := kept_fill8 (W := w4) (g := w.heap.size + 1) (h := w.heap.size + 2) (.bool xb) (.slice p1 l1 d1) (.slice p2 l2 d2) (.slice p3 l3 d3) (.bool yb) (.slice q1 m3 g1) (.slice q2 m4 g2) (.slice q3 m5 g3)
  have hf := fill8 BY4.out BZ4.out (by omega) (.bool xb) (.slice p1 l1 d1) (.slice p2 l2 d2) (.slice p3 l3 d3) (.bool yb) (.slice q1 m3 g1) (.slice q2 m4 g2) (.slice q3 m5 g3)
  have kfin := hidden (show Same w _ from (K0.out.trans K4.out).trans' kf (fun i hi hs => by omega))
  have R1 := hidden ((HO1'.out.kept kf (fun i hi hs => by omega)).low (C := w.heap.size) (by omega))
  have R2 := hidden ((HO2.out.kept kf (fun i hi hs => by omega)).low (C := w.heap.size) (by omega))
  clear kf e0 e1 e2 e3 f0 f1 f2 f3 ef ff
  generalize ((((((((w4.setCell ⟨w.heap.size + 1, 0, none⟩ (.bool xb)).setCell ⟨w.heap.size + 1, 1, none⟩ (.slice p1 l1 d1)).setCell ⟨w.heap.size + 1, 2, none⟩ (.slice p2 l2 d2)).setCell ⟨w.heap.size + 1, 3, none⟩ (.slice p3 l3 d3)).setCell ⟨w.heap.size + 2, 0, none⟩ (.bool yb)).setCell ⟨w.heap.size + 2, 1, none⟩ (.slice q1 m3 g1)).setCell ⟨w.heap.size + 2, 2, none⟩ (.slice q2 m4 g2)).setCell ⟨w.heap.size + 2, 3, none⟩ (.slice q3 m5 g3)) = WF at *
  have s0 := blk_cell (j := 0) hf.1; have s1 := blk_cell (j := 1) hf.1; have s2 := blk_cell (j := 2) hf.1; have s3 := blk_cell (j := 3) hf.1; simp at s0 s1 s2 s3
  have t0 := blk_cell (j := 0) hf.2; have t1 := blk_cell (j := 1) hf.2; have t2 := blk_cell (j := 2) hf.2; have t3 := blk_cell (j := 3) hf.2; simp at t0 t1 t2 t3
  go_wp2
  refine bodyPost_ret (v := .tuple #[.agg #[.bool xb, .slice p1 l1 d1, .slice p2 l2 d2, .slice p3 l3 d3], .string kx, .agg #[.bool yb, .slice q1 m3 g1, .slice q2 m4 g2, .slice q3 m5 g3], .int .i64 0]) (by simp [results, Tryd.results27, go_sem, s0, s1, s2, s3, t0, t1, t2, t3]) rfl ⟨_, rfl, ⟨_, _, rfl, R1.out, R2.out, kfin.out⟩⟩
end Go.Proofs.YtpjgghalnkfdkaaDoor
