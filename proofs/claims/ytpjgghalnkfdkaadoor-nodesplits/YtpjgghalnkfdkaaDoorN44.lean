/- node: part of an inner node. (Made by mkn43.py.) -/
import Derived.Test.YtpjgghalnkfdkaaDoorN43
namespace Go.Proofs.YtpjgghalnkfdkaaDoor
open Go.RowKit
set_option linter.unusedVariables false
set_option linter.unusedSimpArgs false
set_option maxHeartbeats 2000000 in
set_option maxRecDepth 100000 in
theorem part_inner (n : Nd) (a1 a2 a3 : Option Addr) (k1 c1 k2 c2 k3 c3 : Nat) (lo hi : Nat) (w : World) (r1 : Row w (.slice a1 k1 c1) (TS n.keys)) (r2 : Row w (.slice a2 k2 c2) (TS n.vals)) (r3 : Row w (.slice a3 k3 c3) (IS n.kids)) (hlf : n.leaf = false) (h1 : lo ≤ hi) (h2 : hi ≤ k1) (h3 : hi + 1 ≤ k3) (hb1 : n.keys.length ≤ 8796093022208) (hb2 : n.kids.length ≤ 17592186044416) :
    Calls Tryd.prog 54 #[.agg #[.bool n.leaf, .slice a1 k1 c1, .slice a2 k2 c2, .slice a3 k3 c3], .int .i64 lo, .int .i64 hi] w fun e w' => ∃ u, e = .returned u ∧ PtR (n.sub lo hi) w u w' := by
  have hc1 := r1.len.2
  have hc3 := r3.len.2
  have e3 := r3.il
  have s1 := sl_part unS szS a1 k1 c1 lo hi h1 h2 hc1
  have s2 : ∀ W, (Instr.sliceAt 23 (.slice a3 k3 c3) (some (.int .i64 (lo : Int))) (some (.int .i64 ((hi : Int) + 1))) none).run Tryd.prog W = _ := fun W => sl_part unI szI a3 k3 c3 lo (hi + 1) (by omega) h3 hc3 W
  have R1 := hidden (r1.partS h1 h2)
  have R2 := hidden (r3.partI (lo := lo) (hi := hi + 1) (by omega) h3)
  generalize (if c1 = lo then a1 else a1.map (·.add (lo * 1))) = p1 at s1 R1
  generalize (if c3 = lo then a3 else a3.map (·.add (lo * 1))) = p3 at s2 R2
  have hsub : n.sub lo hi = ⟨false, (n.keys.drop lo).take (hi - lo), [], (n.kids.drop lo).take (hi + 1 - lo)⟩ := by unfold Nd.sub; rw [hlf]; rfl
  have HSub := hidden hsub
  rw [hlf]
  have hl1 : ((n.keys.drop lo).take (hi - lo)).length ≤ 8796093022208 := by rw [List.length_take, List.length_drop]; omega
  have hl2 : ((n.kids.drop lo).take (hi + 1 - lo)).length ≤ 17592186044416 := by rw [List.length_take, List.length_drop]; omega
  have HK1 := hidden (fun W k => cloneS' _ _ W (R1.out.same (w' := W) k) hl1)
  have HK2 := hidden (fun W k => cloneI' _ _ W (R2.out.same (w' := W) k) hl2)
  have hhi : (hi : Int) ≤ 17592186044416 := by omega
  generalize (n.keys.drop lo).take (hi - lo) = L1 at *
  generalize (n.kids.drop lo).take (hi + 1 - lo) = L2 at *
  clear r1 r2 r3 hsub hlf e3
  go_enter Tryd.func54, Tryd.ntmps54
  go_wp2
  have bx := blk_alloc (blk_new w (.cells #[.bool false, .slice a1 k1 c1, .slice a2 k2 c2, .slice a3 k3 c3] 25)) (.cells #[.bool false, .slice none 0 0, .slice none 0 0, .slice none 0 0] 25)
  have by' := blk_new (w.alloc (.cells #[.bool false, .slice a1 k1 c1, .slice a2 k2 c2, .slice a3 k3 c3] 25)) (.cells #[.bool false, .slice none 0 0, .slice none 0 0, .slice none 0 0] 25)
  rw [show (w.alloc (.cells #[.bool false, .slice a1 k1 c1, .slice a2 k2 c2, .slice a3 k3 c3] 25)).heap.size = w.heap.size + 1 by simp] at by'
  have K0 := hidden ((same_alloc w (.cells #[.bool false, .slice a1 k1 c1, .slice a2 k2 c2, .slice a3 k3 c3] 25)).alloc (.cells #[.bool false, .slice none 0 0, .slice none 0 0, .slice none 0 0] 25))
  have zA : ((w.alloc (.cells #[.bool false, .slice a1 k1 c1, .slice a2 k2 c2, .slice a3 k3 c3] 25)).alloc (.cells #[.bool false, .slice none 0 0, .slice none 0 0, .slice none 0 0] 25)).heap.size = w.heap.size + 2 := by simp
  generalize ((w.alloc (.cells #[.bool false, .slice a1 k1 c1, .slice a2 k2 c2, .slice a3 k3 c3] 25)).alloc (.cells #[.bool false, .slice none 0 0, .slice none 0 0, .slice none 0 0] 25)) = WA at *
  have BX := hidden bx
  have BY := hidden by'
  have hmx : Tryd.prog.follows .mixedOrders = true := by kernel_rfl
  have HS : Hid (∀ W, Same WA W → (fun W : World => W.cell? ⟨w.heap.size, 0, none⟩ = some (.bool false) ∧ W.cell? ⟨w.heap.size, 1, none⟩ = some (.slice a1 k1 c1)) W) := hidden (fun W kk => ⟨(blk_cell (blk_kept kk (fun h => h) bx)).trans rfl, (blk_cell (blk_kept kk (fun h => h) bx)).trans rfl⟩)
  clear bx by'
  refine wp_region_held_drew (S := (fun W : World => W.cell? ⟨w.heap.size, 0, none⟩ = some (.bool false) ∧ W.cell? ⟨w.heap.size, 1, none⟩ = some (.slice a1 k1 c1))) hmx (HS.out _ ((Kept.refl (fun _ => False) WA).drew)) (fun _ => ?_)
  refine wpAnyH_take (i := 0) (v := (.pointer (some ⟨w.heap.size, 0, none⟩))) rfl (by kernel_rfl) (by kernel_rfl) (by kernel_rfl) (fun _ _ _ h => h) (Or.inl ⟨by rfl, (by intro w hSw; obtain ⟨t0, t1⟩ := hSw; go_simp; try rfl)⟩) (HS.out _ ((Kept.refl (fun _ => False) WA).drew)) ?_; (try go_simp)
  refine wpAnyH_take (i := 1) (v := (.bool false)) rfl (by kernel_rfl) (by kernel_rfl) (by kernel_rfl) (fun _ _ _ h => h) (Or.inl ⟨by rfl, (by intro w hSw; obtain ⟨t0, t1⟩ := hSw; go_simp; try rfl)⟩) (HS.out _ ((Kept.refl (fun _ => False) WA).drew)) ?_; (try go_simp)
  refine wpAnyH_take (i := 2) (v := (.pointer (some ⟨w.heap.size, 1, none⟩))) rfl (by kernel_rfl) (by kernel_rfl) (by kernel_rfl) (fun _ _ _ h => h) (Or.inl ⟨by rfl, (by intro w hSw; obtain ⟨t0, t1⟩ := hSw; go_simp; try rfl)⟩) (HS.out _ ((Kept.refl (fun _ => False) WA).drew)) ?_; (try go_simp)
  refine wpAnyH_take (i := 3) (v := (.slice a1 k1 c1)) rfl (by kernel_rfl) (by kernel_rfl) (by kernel_rfl) (fun _ _ _ h => h) (Or.inl ⟨by rfl, (by intro w hSw; obtain ⟨t0, t1⟩ := hSw; go_simp; try rfl)⟩) (HS.out _ ((Kept.refl (fun _ => False) WA).drew)) ?_; (try go_simp)
  refine wpAnyH_take (i := 4) (v := (.int .i64 lo)) rfl (by kernel_rfl) (by kernel_rfl) (by kernel_rfl) (fun _ _ _ h => h) (Or.inl ⟨by rfl, (by intro w hSw; obtain ⟨t0, t1⟩ := hSw; go_simp; try rfl)⟩) (HS.out _ ((Kept.refl (fun _ => False) WA).drew)) ?_; (try go_simp)
  refine wpAnyH_take (i := 5) (v := (.int .i64 hi)) rfl (by kernel_rfl) (by kernel_rfl) (by kernel_rfl) (fun _ _ _ h => h) (Or.inl ⟨by rfl, (by intro w hSw; obtain ⟨t0, t1⟩ := hSw; go_simp; try rfl)⟩) (HS.out _ ((Kept.refl (fun _ => False) WA).drew)) ?_; (try go_simp)
  refine wpAnyH_take (i := 6) (v := (.slice p1 (hi - lo) (c1 - lo))) rfl (by kernel_rfl) (by kernel_rfl) (by kernel_rfl) (fun _ _ _ h => h) (Or.inl ⟨by rfl, (by intro w hSw; obtain ⟨t0, t1⟩ := hSw; go_simp; try rfl)⟩) (HS.out _ ((Kept.refl (fun _ => False) WA).drew)) ?_; (try go_simp)
  refine wpAnyH_ready (rs := [7, 9]) (by kernel_rfl) (by simp) ?_
  refine (AllReadyH.cons rfl (fun K hK => ?_) (AllReadyH.cons rfl (fun K hK => ?_) AllReadyH.nil))
  · skip
    refine step_call rfl 76 #[.slice p1 (hi - lo) (c1 - lo)] (fun u W => ClS L1 _ u W) (by go_simp; try rfl) (HK1.out _ (K0.out.trans ((Kept.refl (fun _ => False) WA).drew))) ?_
    rintro u w2 hu
    obtain ⟨b1, d1, rfl, ro1, kk2⟩ := hu.ex
    clear hu
    have k2w : Same WA w2 := (show Same WA _ from (Kept.refl (fun _ => False) WA).drew).trans kk2
    have RO1 := hidden ro1
    have z2 := kk2.size
    refine hK.out _ _ (HS.out _ (k2w)) (fun _ => ?_); clear hK K; (try go_simp)
    refine wpAnyH_take (i := 8) (v := (.agg #[.bool false, .slice b1 L1.length d1, .slice none 0 0, .slice none 0 0])) rfl (by kernel_rfl) (by kernel_rfl) (by kernel_rfl) (fun _ _ _ h => h) (Or.inl ⟨by rfl, (by intro w hSw; obtain ⟨t0, t1⟩ := hSw; go_simp; try rfl)⟩) (HS.out _ (k2w)) ?_; (try go_simp)
    refine wpAnyH_ready (rs := [9]) (by kernel_rfl) (by simp) ?_
    refine (AllReadyH.cons rfl (fun K hK => ?_) AllReadyH.nil)
    go_simp
    refine hK.out _ _ (HS.out _ (k2w.alloc _)) (fun _ => ?_); clear hK K; (try go_simp)
    refine wpAnyH_ready (rs := [10]) (by kernel_rfl) (by simp) ?_
    refine (AllReadyH.cons rfl (fun K hK => ?_) AllReadyH.nil)
    go_simp
    refine hK.out _ _ (HS.out _ (k2w.alloc _)) (fun _ => ?_); clear hK K; (try go_simp)
    refine wpAnyH_done (by kernel_rfl) ?_ _
    have HGB := hidden (blk_new w2 (.cells #[.bool false, .slice b1 L1.length d1, .slice none 0 0, .slice none 0 0] 25))
    have KW := hidden (k2w.alloc (.cells #[.bool false, .slice b1 L1.length d1, .slice none 0 0, .slice none 0 0] 25))
    have RX := hidden (own_kept (own_low (C := w.heap.size) RO1.out (by have := K0.out.size; simp; omega)) (same_alloc w2 (.cells #[.bool false, .slice b1 L1.length d1, .slice none 0 0, .slice none 0 0] 25)) (fun _ _ h => h))
    have HR1 : Hid (∀ k, (Value.slice b1 L1.length d1).ownBlock = some k → k ≠ w2.heap.size ∧ k ≠ w.heap.size + 1) := hidden (fun k hk => by have h5 := own_geN RO1.out k hk; have h6 := own_ltN RO1.out k hk; simp at h5; omega)
    have zX : w2.heap.size ≠ w.heap.size + 1 ∧ w.heap.size ≤ w2.heap.size := by have := k2w.size; omega
    generalize w2.heap.size = g at *
    generalize w2.alloc (.cells #[.bool false, .slice b1 L1.length d1, .slice none 0 0, .slice none 0 0] 25) = WX at *
    clear RO1 ro1 k2w kk2 z2
    have g0 := blk_cell (j := 0) HGB.out
    have g1 := blk_cell (j := 1) HGB.out
    have g2 := blk_cell (j := 2) HGB.out
    have g3 := blk_cell (j := 3) HGB.out
    simp at g0 g1 g2 g3
    have zg := blk_lt HGB.out
    have zKW := KW.out.size
    have bxX := blk_kept KW.out (fun h => h) BX.out
    have x0 := blk_cell (j := 0) bxX
    have x2 := blk_cell (j := 2) bxX
    have x3 := blk_cell (j := 3) bxX
    simp at x0 x2 x3
    clear bxX
    go_wp2_with (first
      | (go_at_call 77; refine (HK2.out _ (K0.out.trans KW.out)).mono ?_; rintro e w5 ⟨u, rfl, hu⟩; obtain ⟨b2, d2, rfl, ro2, k5⟩ := hu.ex; have gb5 := blk_kept k5 (fun h => h) HGB.out; have e0 := (blk_cell (j := 0) gb5); have e1 := (blk_cell (j := 1) gb5); have e2 := (blk_cell (j := 2) gb5); have e3 := (blk_cell (j := 3) gb5); simp at e0 e1 e2 e3; have fr := (fun j => blk_free (j := j) gb5); have by5 := blk_kept (KW.out.trans k5) (fun h => h) BY.out; have HY5 := hidden by5; have G5 := hidden gb5; have K5 := hidden (KW.out.trans k5); have RO2 := hidden ro2; have RX5 := hidden (own_kept RX.out k5 (fun _ _ h => h)); have frY := (fun j => blk_free (j := j) by5); have yc0 := (blk_cell (j := 0) by5); have yc1 := (blk_cell (j := 1) by5); have yc2 := (blk_cell (j := 2) by5); have yc3 := (blk_cell (j := 3) by5); simp at yc0 yc1 yc2 yc3; have z5 := k5.size; clear hu k5 gb5 by5 ro2))
    have kf : Kept (fun k => k = g ∨ k = w.heap.size + 1) w5 ((((((w5.setCell ⟨g, 3, none⟩ (.slice b2 L2.length d2)).setCell ⟨w.heap.size + 1, 0, none⟩ (.bool false)).setCell ⟨w.heap.size + 1, 1, none⟩ (.slice b1 L1.length d1)).setCell ⟨w.heap.size + 1, 2, none⟩ (.slice none 0 0)).setCell ⟨w.heap.size + 1, 3, none⟩ (.slice b2 L2.length d2))) := Kept.setCell (p := ⟨w.heap.size + 1, 3, none⟩) (Kept.setCell (p := ⟨w.heap.size + 1, 2, none⟩) (Kept.setCell (p := ⟨w.heap.size + 1, 1, none⟩) (Kept.setCell (p := ⟨w.heap.size + 1, 0, none⟩) (Kept.setCell (p := ⟨g, 3, none⟩) (Kept.refl _ w5) (.inl rfl) _) (.inr rfl) _) (.inr rfl) _) (.inr rfl) _) (.inr rfl) _
    have hyf := fill4 (blk_kept (Kept.setCell (S := fun k => k = g) (p := ⟨g, 3, none⟩) (Kept.refl _ w5) rfl (.slice b2 L2.length d2)) (fun h => by omega) HY5.out) (.bool false) (.slice b1 L1.length d1) (.slice none 0 0) (.slice b2 L2.length d2)
    have y0 := blk_cell (j := 0) hyf
    have y1 := blk_cell (j := 1) hyf
    have y2 := blk_cell (j := 2) hyf
    have y3 := blk_cell (j := 3) hyf
    simp at y0 y1 y2 y3
    have q1 := own_kept RX5.out kf (fun k hk hs => by have := HR1.out k hk; omega)
    have q2 := own_low (C := w.heap.size) (own_kept RO2.out kf (fun k hk hs => by have := own_geN RO2.out k hk; omega)) (by have := K0.out.size; omega)
    have kfin : Same w _ := (K0.out.trans K5.out).trans' kf (fun i hi hs => by omega)
    clear kf hyf
    generalize ((((w5.setCell ⟨g, 3, none⟩ (.slice b2 L2.length d2)).setCell ⟨w.heap.size + 1, 0, none⟩ (.bool false)).setCell ⟨w.heap.size + 1, 1, none⟩ (.slice b1 L1.length d1)).setCell ⟨w.heap.size + 1, 2, none⟩ (.slice none 0 0)).setCell ⟨w.heap.size + 1, 3, none⟩ (.slice b2 L2.length d2) = WF at *
    refine bodyPost_ret (v := .agg #[.bool false, .slice b1 L1.length d1, .slice none 0 0, .slice b2 L2.length d2]) (by simp [results, Tryd.results54, go_sem, y0, y1, y2, y3]) rfl ⟨_, rfl, ⟨?_, kfin⟩⟩
    rw [HSub.out]
    exact ⟨b1, none, b2, d1, 0, d2, rfl, q1, World.ownsRow_nil _ _ _ _, q2⟩
  · skip
    go_simp
    refine hK.out _ _ (HS.out _ (((Kept.refl (fun _ => False) WA).alloc _).drew)) (fun _ => ?_); clear hK K; (try go_simp)
    refine wpAnyH_ready (rs := [7]) (by kernel_rfl) (by simp) ?_
    refine (AllReadyH.cons rfl (fun K hK => ?_) AllReadyH.nil)
    refine step_call rfl 76 #[.slice p1 (hi - lo) (c1 - lo)] (fun u W => ClS L1 _ u W) (by go_simp; try rfl) (HK1.out _ (K0.out.trans (((Kept.refl (fun _ => False) WA).alloc _).drew))) ?_
    rintro u w2 hu
    obtain ⟨b1, d1, rfl, ro1, kk2⟩ := hu.ex
    clear hu
    have k2w : Same WA w2 := (show Same WA _ from ((Kept.refl (fun _ => False) WA).alloc _).drew).trans kk2
    have RO1 := hidden ro1
    have z2 := kk2.size
    refine hK.out _ _ (HS.out _ (k2w)) (fun _ => ?_); clear hK K; (try go_simp)
    refine wpAnyH_take (i := 8) (v := (.agg #[.bool false, .slice b1 L1.length d1, .slice none 0 0, .slice none 0 0])) rfl (by kernel_rfl) (by kernel_rfl) (by kernel_rfl) (fun _ _ _ h => h) (Or.inl ⟨by rfl, (by intro w hSw; obtain ⟨t0, t1⟩ := hSw; go_simp; try rfl)⟩) (HS.out _ (k2w)) ?_; (try go_simp)
    have hgb2 := blk_kept kk2 (fun h => h) (blk_new WA (.cells #[.bool false, .slice none 0 0, .slice none 0 0, .slice none 0 0] 25))
    rw [zA] at hgb2
    have n0 := blk_cell (j := 0) hgb2
    have n1 := blk_cell (j := 1) hgb2
    have n2 := blk_cell (j := 2) hgb2
    have n3 := blk_cell (j := 3) hgb2
    simp at n0 n1 n2 n3
    have nf := (fun j => blk_free (j := j) hgb2)
    refine wpAnyH_ready (rs := [10]) (by kernel_rfl) (by simp) ?_
    refine (AllReadyH.cons rfl (fun K hK => ?_) AllReadyH.nil)
    go_simp
    refine hK.out _ _ (HS.out _ (same_fill4 (w := WA) k2w (g := w.heap.size + 2) (by omega) _ _ _ _)) (fun _ => ?_); clear hK K; (try go_simp)
    refine wpAnyH_done (by kernel_rfl) ?_ _
    have HGB := hidden (fill4 hgb2 (.bool false) (.slice b1 L1.length d1) (.slice none 0 0) (.slice none 0 0))
    have KW := hidden (same_fill4 (w := WA) k2w (g := w.heap.size + 2) (by omega) (.bool false) (.slice b1 L1.length d1) (.slice none 0 0) (.slice none 0 0))
    have RX := hidden (own_kept (own_low (C := w.heap.size) RO1.out (by have := K0.out.size; simp; omega)) (kept_fill4 (W := w2) (g := w.heap.size + 2) (.bool false) (.slice b1 L1.length d1) (.slice none 0 0) (.slice none 0 0)) (fun k hk hs => by have h5 := own_geN RO1.out k hk; simp at h5; have h6 : k = w.heap.size + 2 := hs; omega))
    have HR1 : Hid (∀ k, (Value.slice b1 L1.length d1).ownBlock = some k → k ≠ w.heap.size + 2 ∧ k ≠ w.heap.size + 1) := hidden (fun k hk => by have h5 := own_geN RO1.out k hk; simp at h5; omega)
    have zX : w.heap.size + 2 ≠ w.heap.size + 1 ∧ w.heap.size ≤ w.heap.size + 2 := by omega
    have zW2 : w.heap.size + 1 < WA.heap.size := by omega
    clear zA
    generalize (((w2.setCell ⟨w.heap.size + 2, 0, none⟩ (.bool false)).setCell ⟨w.heap.size + 2, 1, none⟩ (.slice b1 L1.length d1)).setCell ⟨w.heap.size + 2, 2, none⟩ (.slice none 0 0)).setCell ⟨w.heap.size + 2, 3, none⟩ (.slice none 0 0) = WX at *
    clear RO1 ro1 k2w kk2 z2 hgb2 n0 n1 n2 n3 nf
    generalize w.heap.size + 2 = g at *
    have g0 := blk_cell (j := 0) HGB.out
    have g1 := blk_cell (j := 1) HGB.out
    have g2 := blk_cell (j := 2) HGB.out
    have g3 := blk_cell (j := 3) HGB.out
    simp at g0 g1 g2 g3
    have zg := blk_lt HGB.out
    have zKW := KW.out.size
    have bxX := blk_kept KW.out (fun h => h) BX.out
    have x0 := blk_cell (j := 0) bxX
    have x2 := blk_cell (j := 2) bxX
    have x3 := blk_cell (j := 3) bxX
    simp at x0 x2 x3
    clear bxX
    go_wp2_with (first
      | (go_at_call 77; refine (HK2.out _ (K0.out.trans KW.out)).mono ?_; rintro e w5 ⟨u, rfl, hu⟩; obtain ⟨b2, d2, rfl, ro2, k5⟩ := hu.ex; have gb5 := blk_kept k5 (fun h => h) HGB.out; have e0 := (blk_cell (j := 0) gb5); have e1 := (blk_cell (j := 1) gb5); have e2 := (blk_cell (j := 2) gb5); have e3 := (blk_cell (j := 3) gb5); simp at e0 e1 e2 e3; have fr := (fun j => blk_free (j := j) gb5); have by5 := blk_kept (KW.out.trans k5) (fun h => h) BY.out; have HY5 := hidden by5; have G5 := hidden gb5; have K5 := hidden (KW.out.trans k5); have RO2 := hidden ro2; have RX5 := hidden (own_kept RX.out k5 (fun _ _ h => h)); have frY := (fun j => blk_free (j := j) by5); have yc0 := (blk_cell (j := 0) by5); have yc1 := (blk_cell (j := 1) by5); have yc2 := (blk_cell (j := 2) by5); have yc3 := (blk_cell (j := 3) by5); simp at yc0 yc1 yc2 yc3; have z5 := k5.size; clear hu k5 gb5 by5 ro2))
    have kf : Kept (fun k => k = g ∨ k = w.heap.size + 1) w5 ((((((w5.setCell ⟨g, 3, none⟩ (.slice b2 L2.length d2)).setCell ⟨w.heap.size + 1, 0, none⟩ (.bool false)).setCell ⟨w.heap.size + 1, 1, none⟩ (.slice b1 L1.length d1)).setCell ⟨w.heap.size + 1, 2, none⟩ (.slice none 0 0)).setCell ⟨w.heap.size + 1, 3, none⟩ (.slice b2 L2.length d2))) := Kept.setCell (p := ⟨w.heap.size + 1, 3, none⟩) (Kept.setCell (p := ⟨w.heap.size + 1, 2, none⟩) (Kept.setCell (p := ⟨w.heap.size + 1, 1, none⟩) (Kept.setCell (p := ⟨w.heap.size + 1, 0, none⟩) (Kept.setCell (p := ⟨g, 3, none⟩) (Kept.refl _ w5) (.inl rfl) _) (.inr rfl) _) (.inr rfl) _) (.inr rfl) _) (.inr rfl) _
    have hyf := fill4 (blk_kept (Kept.setCell (S := fun k => k = g) (p := ⟨g, 3, none⟩) (Kept.refl _ w5) rfl (.slice b2 L2.length d2)) (fun h => by omega) HY5.out) (.bool false) (.slice b1 L1.length d1) (.slice none 0 0) (.slice b2 L2.length d2)
    have y0 := blk_cell (j := 0) hyf
    have y1 := blk_cell (j := 1) hyf
    have y2 := blk_cell (j := 2) hyf
    have y3 := blk_cell (j := 3) hyf
    simp at y0 y1 y2 y3
    have q1 := own_kept RX5.out kf (fun k hk hs => by have := HR1.out k hk; omega)
    have q2 := own_low (C := w.heap.size) (own_kept RO2.out kf (fun k hk hs => by have := own_geN RO2.out k hk; omega)) (by have := K0.out.size; omega)
    have kfin : Same w _ := (K0.out.trans K5.out).trans' kf (fun i hi hs => by omega)
    clear kf hyf
    generalize ((((w5.setCell ⟨g, 3, none⟩ (.slice b2 L2.length d2)).setCell ⟨w.heap.size + 1, 0, none⟩ (.bool false)).setCell ⟨w.heap.size + 1, 1, none⟩ (.slice b1 L1.length d1)).setCell ⟨w.heap.size + 1, 2, none⟩ (.slice none 0 0)).setCell ⟨w.heap.size + 1, 3, none⟩ (.slice b2 L2.length d2) = WF at *
    refine bodyPost_ret (v := .agg #[.bool false, .slice b1 L1.length d1, .slice none 0 0, .slice b2 L2.length d2]) (by simp [results, Tryd.results54, go_sem, y0, y1, y2, y3]) rfl ⟨_, rfl, ⟨?_, kfin⟩⟩
    rw [HSub.out]
    exact ⟨b1, none, b2, d1, 0, d2, rfl, q1, World.ownsRow_nil _ _ _ _, q2⟩
end Go.Proofs.YtpjgghalnkfdkaaDoor
