/- node: Join of two inner nodes. (Made by mkn48.py.) -/
import Derived.Test.YtpjgghalnkfdkaaDoorN48
import Derived.Deep.RegionHeld3
namespace Go.Proofs.YtpjgghalnkfdkaaDoor
open Go.RowKit
set_option linter.unusedVariables false
set_option linter.unusedSimpArgs false
set_option maxHeartbeats 2000000 in
set_option maxRecDepth 100000 in
theorem join_inner (n : Nd) (a1 a2 a3 : Option Addr) (k1 c1 k2 c2 k3 c3 : Nat) (m : Nd) (b1 b2 b3 : Option Addr) (l1 d1 l2 d2 l3 d3 : Nat) (key : ByteArray) (w : World) (r1 : Row w (.slice a1 k1 c1) (TS n.keys)) (r2 : Row w (.slice a2 k2 c2) (TS n.vals)) (r3 : Row w (.slice a3 k3 c3) (IS n.kids)) (s1 : Row w (.slice b1 l1 d1) (TS m.keys)) (s2 : Row w (.slice b2 l2 d2) (TS m.vals)) (s3 : Row w (.slice b3 l3 d3) (IS m.kids)) (hb : n.Bd) (hb' : m.Bd) (hl : n.leaf = false) (hl' : m.leaf = false) (hp : n.part = 0) (hp' : m.part = 0) (hr : rises (n.keys ++ [key] ++ m.keys) = true) (hN1 : (k1 + l1 + 1) * 16 ≤ 140737488355328) (hN2 : (k2 + l2) * 16 ≤ 140737488355328) (hN3 : (k3 + l3) * 8 ≤ 140737488355328) :
    Calls Tryd.prog 29 #[.agg #[.bool n.leaf, .slice a1 k1 c1, .slice a2 k2 c2, .slice a3 k3 c3], .string key, .agg #[.bool m.leaf, .slice b1 l1 d1, .slice b2 l2 d2, .slice b3 l3 d3]] w fun e w' => ∃ u, e = .returned u ∧ JnR ⟨false, n.keys ++ [key] ++ m.keys, n.vals ++ m.vals, n.kids ++ m.kids⟩ w u w' := by
  have HC1 := hidden (fun W (k : Same w W) => checkPart_any n a1 a2 a3 k1 c1 k2 c2 k3 c3 W (r1.same k) (r2.same k) (r3.same k) hb)
  have HC2 := hidden (fun W (k : Same w W) => checkPart_any m b1 b2 b3 l1 d1 l2 d2 l3 d3 W (s1.same k) (s2.same k) (s3.same k) hb')
  rw [hp] at HC1
  rw [hp'] at HC2
  rw [hl] at HC1 ⊢
  rw [hl'] at HC2 ⊢
  have e1 := r1.tl
  have e2 := r2.tl
  have e3 := r3.il
  have f1 := s1.tl
  have f2 := s2.tl
  have f3 := s3.il
  have HCK := hidden (fun W (k : Same w W) (g : Nat) (t : TypeId) (g1 : Nat) (hg : W.heap[g]? = some (.cells #[.slice a1 k1 c1, .slice (some ⟨g1, 0, none⟩) 1 1, .slice b1 l1 d1] t (0, 0))) (hk : W.cell? ⟨g1, 0, none⟩ = some (.string key)) => concat3S n.keys [key] m.keys g t a1 (some ⟨g1, 0, none⟩) b1 k1 1 l1 c1 1 d1 W hg e1 rfl f1 (r1.same k) (row_one hk) (s1.same k) (by omega))
  have HR := hidden (fun W u c (r : Row W (.slice u (n.keys ++ [key] ++ m.keys).length c) (TS (n.keys ++ [key] ++ m.keys))) => rise_any (n.keys ++ [key] ++ m.keys) u (n.keys ++ [key] ++ m.keys).length c W r (by simp; omega))
  rw [hr] at HR
  have HCV := hidden (fun W (k : Same w W) (g : Nat) (t : TypeId) (hg : W.heap[g]? = some (.cells #[.slice a2 k2 c2, .slice b2 l2 d2] t (0, 0))) => concat2S n.vals m.vals g t a2 b2 k2 l2 c2 d2 W hg e2 f2 (r2.same k) (s2.same k) hN2)
  have HCI := hidden (fun W (k : Same w W) (g : Nat) (t : TypeId) (hg : W.heap[g]? = some (.cells #[.slice a3 k3 c3, .slice b3 l3 d3] t (0, 0))) => concat2I n.kids m.kids g t a3 b3 k3 l3 c3 d3 W hg e3 f3 (r3.same k) (s3.same k) hN3)
  generalize n.keys ++ [key] ++ m.keys = LK at *
  generalize n.vals ++ m.vals = LV at *
  generalize n.kids ++ m.kids = LI at *
  clear r1 r2 r3 s1 s2 s3 hb hb' hl hl' hp hp' hr e1 e2 e3 f1 f2 f3 hN1 hN2 hN3
  have bx := blk_alloc (blk_alloc (blk_new w (.cells #[.bool false, .slice a1 k1 c1, .slice a2 k2 c2, .slice a3 k3 c3] 25)) (.cells #[.bool false, .slice b1 l1 d1, .slice b2 l2 d2, .slice b3 l3 d3] 25)) (.cells #[.bool false, .slice none 0 0, .slice none 0 0, .slice none 0 0] 25)
  have by' := blk_alloc (blk_new (w.alloc (.cells #[.bool false, .slice a1 k1 c1, .slice a2 k2 c2, .slice a3 k3 c3] 25)) (.cells #[.bool false, .slice b1 l1 d1, .slice b2 l2 d2, .slice b3 l3 d3] 25)) (.cells #[.bool false, .slice none 0 0, .slice none 0 0, .slice none 0 0] 25)
  have bz' := blk_new ((w.alloc (.cells #[.bool false, .slice a1 k1 c1, .slice a2 k2 c2, .slice a3 k3 c3] 25)).alloc (.cells #[.bool false, .slice b1 l1 d1, .slice b2 l2 d2, .slice b3 l3 d3] 25)) (.cells #[.bool false, .slice none 0 0, .slice none 0 0, .slice none 0 0] 25)
  rw [show (w.alloc (.cells #[.bool false, .slice a1 k1 c1, .slice a2 k2 c2, .slice a3 k3 c3] 25)).heap.size = w.heap.size + 1 by simp] at by'
  rw [show ((w.alloc (.cells #[.bool false, .slice a1 k1 c1, .slice a2 k2 c2, .slice a3 k3 c3] 25)).alloc (.cells #[.bool false, .slice b1 l1 d1, .slice b2 l2 d2, .slice b3 l3 d3] 25)).heap.size = w.heap.size + 2 by simp] at bz'
  have K0 := hidden (((same_alloc w (.cells #[.bool false, .slice a1 k1 c1, .slice a2 k2 c2, .slice a3 k3 c3] 25)).alloc (.cells #[.bool false, .slice b1 l1 d1, .slice b2 l2 d2, .slice b3 l3 d3] 25)).alloc (.cells #[.bool false, .slice none 0 0, .slice none 0 0, .slice none 0 0] 25))
  have zA : (((w.alloc (.cells #[.bool false, .slice a1 k1 c1, .slice a2 k2 c2, .slice a3 k3 c3] 25)).alloc (.cells #[.bool false, .slice b1 l1 d1, .slice b2 l2 d2, .slice b3 l3 d3] 25)).alloc (.cells #[.bool false, .slice none 0 0, .slice none 0 0, .slice none 0 0] 25)).heap.size = w.heap.size + 3 := by simp
  have BX := hidden bx
  have BY := hidden by'
  have BZ := hidden bz'
  clear bx by' bz'
  go_enter Tryd.func29, Tryd.ntmps29
  go_wp2_with (first
    | (go_at_call 39; refine (HC2.out _ (K0.out.trans K1.out)).mono ?_; rintro e w2 ⟨rfl, q2⟩; have K2 := hidden (K1.out.trans q2); have x0 := blk_cell (j := 0) (blk_kept K2.out (fun h => h) BX.out); have x1 := blk_cell (j := 1) (blk_kept K2.out (fun h => h) BX.out); have x2 := blk_cell (j := 2) (blk_kept K2.out (fun h => h) BX.out); have x3 := blk_cell (j := 3) (blk_kept K2.out (fun h => h) BX.out); simp at x0 x1 x2 x3; have y0 := blk_cell (j := 0) (blk_kept K2.out (fun h => h) BY.out); have y1 := blk_cell (j := 1) (blk_kept K2.out (fun h => h) BY.out); have y2 := blk_cell (j := 2) (blk_kept K2.out (fun h => h) BY.out); have y3 := blk_cell (j := 3) (blk_kept K2.out (fun h => h) BY.out); simp at y0 y1 y2 y3; have u0 := blk_cell (j := 0) (blk_alloc (blk_kept K2.out (fun h => h) BX.out) (.cells #[.string key] 9)); have u1 := blk_cell (j := 1) (blk_alloc (blk_kept K2.out (fun h => h) BX.out) (.cells #[.string key] 9)); have u2 := blk_cell (j := 2) (blk_alloc (blk_kept K2.out (fun h => h) BX.out) (.cells #[.string key] 9)); have u3 := blk_cell (j := 3) (blk_alloc (blk_kept K2.out (fun h => h) BX.out) (.cells #[.string key] 9)); simp at u0 u1 u2 u3; have v0 := blk_cell (j := 0) (blk_alloc (blk_kept K2.out (fun h => h) BY.out) (.cells #[.string key] 9)); have v1 := blk_cell (j := 1) (blk_alloc (blk_kept K2.out (fun h => h) BY.out) (.cells #[.string key] 9)); have v2 := blk_cell (j := 2) (blk_alloc (blk_kept K2.out (fun h => h) BY.out) (.cells #[.string key] 9)); have v3 := blk_cell (j := 3) (blk_alloc (blk_kept K2.out (fun h => h) BY.out) (.cells #[.string key] 9)); simp at v0 v1 v2 v3; clear q2)
    | (go_at_call 39; refine (HC1.out _ K0.out).mono ?_; rintro e w1 ⟨rfl, q1⟩; have K1 := hidden q1; have x0 := blk_cell (j := 0) (blk_kept q1 (fun h => h) BX.out); have x1 := blk_cell (j := 1) (blk_kept q1 (fun h => h) BX.out); have x2 := blk_cell (j := 2) (blk_kept q1 (fun h => h) BX.out); have x3 := blk_cell (j := 3) (blk_kept q1 (fun h => h) BX.out); simp at x0 x1 x2 x3; have y0 := blk_cell (j := 0) (blk_kept q1 (fun h => h) BY.out); have y1 := blk_cell (j := 1) (blk_kept q1 (fun h => h) BY.out); have y2 := blk_cell (j := 2) (blk_kept q1 (fun h => h) BY.out); have y3 := blk_cell (j := 3) (blk_kept q1 (fun h => h) BY.out); simp at y0 y1 y2 y3; clear q1)
    | (go_at_call 56; refine (HR.out _ _ _ (Row.own RO1.out)).mono ?_; rintro e w4 ⟨rfl, q4⟩; have K4 := hidden (K3.out.trans q4); have RK := hidden (own_low (C := w.heap.size + 3) (own_kept RO1.out q4 (fun _ _ h => h)) (by have := K2.out.size; simp at this ⊢; omega)); clear q4)
    | (go_at_call 55; refine (HCK.out _ (((K0.out.trans K2.out).alloc _).alloc _) _ _ _ (show (World.alloc (World.alloc w2 _) _).heap[w2.heap.size + 1]? = _ by have hq := blk_new (w2.alloc (.cells #[.string key] 9)) (.cells #[.slice a1 k1 c1, .slice (some ⟨w2.heap.size, 0, none⟩) 1 1, .slice b1 l1 d1] 22); rw [show (w2.alloc (.cells #[.string key] 9)).heap.size = w2.heap.size + 1 by simp] at hq; exact hq) ((blk_cell (j := 0) (blk_alloc (blk_new w2 (.cells #[.string key] 9)) _)).trans rfl)).mono ?_; rintro e w3 ⟨u, rfl, hu⟩; obtain ⟨p1, g1, rfl, ro1, k3'⟩ := hu.ex; have K3 := hidden (Kept.trans ((K2.out.alloc _).alloc _) k3'); have RO1 := hidden ro1; clear hu k3' ro1))
  clear RO1 K1 K2 K3 x0 x1 x2 x3 y0 y1 y2 y3 u0 u1 u2 u3 v0 v1 v2 v3
  generalize (((w.alloc (.cells #[.bool false, .slice a1 k1 c1, .slice a2 k2 c2, .slice a3 k3 c3] 25)).alloc (.cells #[.bool false, .slice b1 l1 d1, .slice b2 l2 d2, .slice b3 l3 d3] 25)).alloc (.cells #[.bool false, .slice none 0 0, .slice none 0 0, .slice none 0 0] 25)) = WA at *
  have hmx : Tryd.prog.follows .mixedOrders = true := by kernel_rfl
  have HS : Hid (∀ W, Kept (fun k => k = w.heap.size + 2) WA W → (fun W : World => W.cell? ⟨w.heap.size, 0, none⟩ = some (.bool false) ∧ W.cell? ⟨w.heap.size, 2, none⟩ = some (.slice a2 k2 c2) ∧ W.cell? ⟨w.heap.size, 3, none⟩ = some (.slice a3 k3 c3) ∧ W.cell? ⟨w.heap.size + 1, 2, none⟩ = some (.slice b2 l2 d2) ∧ W.cell? ⟨w.heap.size + 1, 3, none⟩ = some (.slice b3 l3 d3)) W) := hidden (fun W kk => ⟨(blk_cell (blk_kept kk (fun h => by omega) BX.out)).trans rfl, (blk_cell (blk_kept kk (fun h => by omega) BX.out)).trans rfl, (blk_cell (blk_kept kk (fun h => by omega) BX.out)).trans rfl, (blk_cell (blk_kept kk (fun h => by omega) BY.out)).trans rfl, (blk_cell (blk_kept kk (fun h => by omega) BY.out)).trans rfl⟩)
  have HW : Hid (∀ W, Same WA W → Kept (fun k => k = w.heap.size + 2) WA W) := hidden (fun W k => k.mono (fun i _ h => False.elim h))
  have z4 := K4.out.size
  refine wp_region_held_drew (S := (fun W : World => W.cell? ⟨w.heap.size, 0, none⟩ = some (.bool false) ∧ W.cell? ⟨w.heap.size, 2, none⟩ = some (.slice a2 k2 c2) ∧ W.cell? ⟨w.heap.size, 3, none⟩ = some (.slice a3 k3 c3) ∧ W.cell? ⟨w.heap.size + 1, 2, none⟩ = some (.slice b2 l2 d2) ∧ W.cell? ⟨w.heap.size + 1, 3, none⟩ = some (.slice b3 l3 d3))) hmx (HS.out _ (HW.out _ K4.out.drew)) (fun _ => ?_)
  refine wpAnyH_take (i := 0) (v := (.pointer (some ⟨w.heap.size, 0, none⟩))) rfl (by kernel_rfl) (by kernel_rfl) (by kernel_rfl) (fun _ _ _ h => h) (Or.inl ⟨by rfl, (by intro w hSw; obtain ⟨t0, t1, t2, t3, t4⟩ := hSw; go_simp; try rfl)⟩) (HS.out _ (HW.out _ K4.out.drew)) ?_; (try go_simp)
  refine wpAnyH_take (i := 1) (v := (.bool false)) rfl (by kernel_rfl) (by kernel_rfl) (by kernel_rfl) (fun _ _ _ h => h) (Or.inl ⟨by rfl, (by intro w hSw; obtain ⟨t0, t1, t2, t3, t4⟩ := hSw; go_simp; try rfl)⟩) (HS.out _ (HW.out _ K4.out.drew)) ?_; (try go_simp)
  refine wpAnyH_take (i := 2) (v := (.slice p1 LK.length g1)) rfl (by kernel_rfl) (by kernel_rfl) (by kernel_rfl) (fun _ _ _ h => h) (Or.inl ⟨by rfl, (by intro w hSw; obtain ⟨t0, t1, t2, t3, t4⟩ := hSw; go_simp; try rfl)⟩) (HS.out _ (HW.out _ K4.out.drew)) ?_; (try go_simp)
  refine wpAnyH_take (i := 3) (v := (.pointer (some ⟨w.heap.size, 2, none⟩))) rfl (by kernel_rfl) (by kernel_rfl) (by kernel_rfl) (fun _ _ _ h => h) (Or.inl ⟨by rfl, (by intro w hSw; obtain ⟨t0, t1, t2, t3, t4⟩ := hSw; go_simp; try rfl)⟩) (HS.out _ (HW.out _ K4.out.drew)) ?_; (try go_simp)
  refine wpAnyH_take (i := 4) (v := (.slice a2 k2 c2)) rfl (by kernel_rfl) (by kernel_rfl) (by kernel_rfl) (fun _ _ _ h => h) (Or.inl ⟨by rfl, (by intro w hSw; obtain ⟨t0, t1, t2, t3, t4⟩ := hSw; go_simp; try rfl)⟩) (HS.out _ (HW.out _ K4.out.drew)) ?_; (try go_simp)
  refine wpAnyH_take (i := 5) (v := (.pointer (some ⟨w.heap.size + 1, 2, none⟩))) rfl (by kernel_rfl) (by kernel_rfl) (by kernel_rfl) (fun _ _ _ h => h) (Or.inl ⟨by rfl, (by intro w hSw; obtain ⟨t0, t1, t2, t3, t4⟩ := hSw; go_simp; try rfl)⟩) (HS.out _ (HW.out _ K4.out.drew)) ?_; (try go_simp)
  refine wpAnyH_take (i := 6) (v := (.slice b2 l2 d2)) rfl (by kernel_rfl) (by kernel_rfl) (by kernel_rfl) (fun _ _ _ h => h) (Or.inl ⟨by rfl, (by intro w hSw; obtain ⟨t0, t1, t2, t3, t4⟩ := hSw; go_simp; try rfl)⟩) (HS.out _ (HW.out _ K4.out.drew)) ?_; (try go_simp)
  refine wpAnyH_take (i := 9) (v := (.pointer (some ⟨w.heap.size, 3, none⟩))) rfl (by kernel_rfl) (by kernel_rfl) (by kernel_rfl) (fun _ _ _ h => h) (Or.inl ⟨by rfl, (by intro w hSw; obtain ⟨t0, t1, t2, t3, t4⟩ := hSw; go_simp; try rfl)⟩) (HS.out _ (HW.out _ K4.out.drew)) ?_; (try go_simp)
  refine wpAnyH_take (i := 10) (v := (.slice a3 k3 c3)) rfl (by kernel_rfl) (by kernel_rfl) (by kernel_rfl) (fun _ _ _ h => h) (Or.inl ⟨by rfl, (by intro w hSw; obtain ⟨t0, t1, t2, t3, t4⟩ := hSw; go_simp; try rfl)⟩) (HS.out _ (HW.out _ K4.out.drew)) ?_; (try go_simp)
  refine wpAnyH_take (i := 11) (v := (.pointer (some ⟨w.heap.size + 1, 3, none⟩))) rfl (by kernel_rfl) (by kernel_rfl) (by kernel_rfl) (fun _ _ _ h => h) (Or.inl ⟨by rfl, (by intro w hSw; obtain ⟨t0, t1, t2, t3, t4⟩ := hSw; go_simp; try rfl)⟩) (HS.out _ (HW.out _ K4.out.drew)) ?_; (try go_simp)
  refine wpAnyH_take (i := 12) (v := (.slice b3 l3 d3)) rfl (by kernel_rfl) (by kernel_rfl) (by kernel_rfl) (fun _ _ _ h => h) (Or.inl ⟨by rfl, (by intro w hSw; obtain ⟨t0, t1, t2, t3, t4⟩ := hSw; go_simp; try rfl)⟩) (HS.out _ (HW.out _ K4.out.drew)) ?_; (try go_simp)
  refine wpAnyH_ready (rs := [7, 13]) (by kernel_rfl) (by simp) ?_
  refine (AllReadyH.cons rfl (fun K hK => ?_) (AllReadyH.cons rfl (fun K hK => ?_) AllReadyH.nil))
  · skip
    go_simp
    refine hK.out _ _ (HS.out _ ((HW.out _ K4.out.drew).alloc _)) (fun _ => ?_); clear hK K; (try go_simp)
    refine wpAnyH_ready (rs := [8, 13]) (by kernel_rfl) (by simp) ?_
    refine (AllReadyH.cons rfl (fun K hK => ?_) (AllReadyH.cons rfl (fun K hK => ?_) AllReadyH.nil))
    · skip
      refine step_call rfl 55 #[.slice (some ⟨w4.heap.size, 0, none⟩) 2 2] (fun u W => ClS LV _ u W) (by go_simp; try rfl) (HCV.out _ (K0.out.trans (K4.out.drew.alloc _)) _ _ (blk_new w4.drew (.cells #[.slice a2 k2 c2, .slice b2 l2 d2] 22))) ?_
      rintro u w5 hu
      obtain ⟨p2, g2, rfl, ro2, k5'⟩ := hu.ex
      have K5 := hidden (show Same WA w5 from Kept.trans (K4.out.drew.alloc _) k5')
      have RV := hidden (own_low (C := w.heap.size + 3) ro2 (by simp; omega))
      clear hu ro2
      have RK5 := hidden (own_kept RK.out (Kept.trans ((show Same w4 w4.drew from (Kept.refl _ w4).drew).alloc _) k5') (fun _ _ h => h))
      clear k5'
      refine hK.out _ _ (HS.out _ (HW.out _ K5.out)) (fun _ => ?_); clear hK K; (try go_simp)
      refine wpAnyH_ready (rs := [13]) (by kernel_rfl) (by simp) ?_
      refine (AllReadyH.cons rfl (fun K hK => ?_) AllReadyH.nil)
      go_simp
      refine hK.out _ _ (HS.out _ ((HW.out _ K5.out).alloc _)) (fun _ => ?_); clear hK K; (try go_simp)
      refine wpAnyH_ready (rs := [14]) (by kernel_rfl) (by simp) ?_
      refine (AllReadyH.cons rfl (fun K hK => ?_) AllReadyH.nil)
      refine step_call rfl 57 #[.slice (some ⟨w5.heap.size, 0, none⟩) 2 2] (fun u W => ClI LI _ u W) (by go_simp; try rfl) (HCI.out _ (K0.out.trans (K5.out.alloc _)) _ _ (blk_new w5 (.cells #[.slice a3 k3 c3, .slice b3 l3 d3] 23))) ?_
      rintro u w6 hu
      obtain ⟨p3, g3, rfl, ro3, k6'⟩ := hu.ex
      have K6 := hidden (show Same WA w6 from Kept.trans (K5.out.alloc _) k6')
      have RI := hidden (own_low (C := w.heap.size + 3) ro3 (by have := K5.out.size; simp; omega))
      have RK6 := hidden (own_kept RK5.out (Kept.trans (same_alloc w5 _) k6') (fun _ _ h => h))
      have RV6 := hidden (own_kept RV.out (Kept.trans (same_alloc w5 _) k6') (fun _ _ h => h))
      clear hu ro3 k6'
      refine hK.out _ _ (HS.out _ (HW.out _ K6.out)) (fun _ => ?_); clear hK K; (try go_simp)
      refine wpAnyH_take (i := 15) (v := (.agg #[.bool false, .slice p1 LK.length g1, .slice p2 LV.length g2, .slice p3 LI.length g3])) rfl (by kernel_rfl) (by kernel_rfl) (by kernel_rfl) (fun _ _ _ h => h) (Or.inl ⟨by rfl, (by intro w hSw; obtain ⟨t0, t1, t2, t3, t4⟩ := hSw; go_simp; try rfl)⟩) (HS.out _ (HW.out _ K6.out)) ?_; (try go_simp)
      have BZ6 := hidden (blk_kept K6.out (fun h => h) BZ.out)
      have e0 := blk_cell (j := 0) BZ6.out; have e1 := blk_cell (j := 1) BZ6.out; have e2 := blk_cell (j := 2) BZ6.out; have e3 := blk_cell (j := 3) BZ6.out; simp at e0 e1 e2 e3
      have ef := (fun j => blk_free (j := j) BZ6.out)
      refine wpAnyH_ready (rs := [16]) (by kernel_rfl) (by simp) ?_
      refine (AllReadyH.cons rfl (fun K hK => ?_) AllReadyH.nil)
      go_simp
      refine hK.out _ _ (HS.out _ ((HW.out _ K6.out).put4 (g := w.heap.size + 2) rfl _ _ _ _)) (fun _ => ?_); clear hK K; (try go_simp)
      refine wpAnyH_ready (rs := [17]) (by kernel_rfl) (by simp) ?_
      refine (AllReadyH.cons rfl (fun K hK => ?_) AllReadyH.nil)
      go_simp
      refine hK.out _ _ (HS.out _ ((HW.out _ K6.out).put4 (g := w.heap.size + 2) rfl _ _ _ _)) (fun _ => ?_); clear hK K; (try go_simp)
      refine wpAnyH_done (by kernel_rfl) ?_ _
      have kf := kept_fill4 (W := w6) (g := w.heap.size + 2) (.bool false) (.slice p1 LK.length g1) (.slice p2 LV.length g2) (.slice p3 LI.length g3)
      have hf := fill4 BZ6.out (.bool false) (.slice p1 LK.length g1) (.slice p2 LV.length g2) (.slice p3 LI.length g3)
      have kfin := hidden (show Same w _ from (K0.out.trans K6.out).trans' kf (fun i hi hs => by change i = _ at hs; omega))
      have Q1 := hidden (own_low (C := w.heap.size) (own_kept RK6.out kf (fun k hk hs => by have := own_geN RK6.out k hk; change k = _ at hs; omega)) (by omega))
      have Q2 := hidden (own_low (C := w.heap.size) (own_kept RV6.out kf (fun k hk hs => by have := own_geN RV6.out k hk; change k = _ at hs; omega)) (by omega))
      have Q3 := hidden (own_low (C := w.heap.size) (own_kept RI.out kf (fun k hk hs => by have := own_geN RI.out k hk; change k = _ at hs; omega)) (by omega))
      clear kf e0 e1 e2 e3 ef
      generalize ((((w6.setCell ⟨w.heap.size + 2, 0, none⟩ (.bool false)).setCell ⟨w.heap.size + 2, 1, none⟩ (.slice p1 LK.length g1)).setCell ⟨w.heap.size + 2, 2, none⟩ (.slice p2 LV.length g2)).setCell ⟨w.heap.size + 2, 3, none⟩ (.slice p3 LI.length g3)) = WF at *
      have s0 := blk_cell (j := 0) hf; have s1 := blk_cell (j := 1) hf; have s2 := blk_cell (j := 2) hf; have s3 := blk_cell (j := 3) hf; simp at s0 s1 s2 s3
      go_wp2
      refine bodyPost_ret (v := .tuple #[.agg #[.bool false, .slice p1 LK.length g1, .slice p2 LV.length g2, .slice p3 LI.length g3], .int .i64 0]) (by simp [results, Tryd.results29, go_sem, s0, s1, s2, s3]) rfl ⟨_, rfl, ⟨_, rfl, ⟨p1, p2, p3, g1, g2, g3, rfl, Q1.out, Q2.out, Q3.out⟩, kfin.out⟩⟩
    · skip
      go_simp
      refine hK.out _ _ (HS.out _ (((HW.out _ K4.out.drew).alloc _).alloc _)) (fun _ => ?_); clear hK K; (try go_simp)
      refine wpAnyH_ready (rs := [8]) (by kernel_rfl) (by simp) ?_
      refine (AllReadyH.cons rfl (fun K hK => ?_) AllReadyH.nil)
      have hq := blk_new (w4.drew.alloc (.cells #[.slice a2 k2 c2, .slice b2 l2 d2] 22)) (.cells #[.slice a3 k3 c3, .slice b3 l3 d3] 23)
      rw [show (w4.drew.alloc (.cells #[.slice a2 k2 c2, .slice b2 l2 d2] 22)).heap.size = w4.heap.size + 1 by simp] at hq
      refine step_call rfl 55 #[.slice (some ⟨w4.heap.size, 0, none⟩) 2 2] (fun u W => ClS LV _ u W) (by go_simp; try rfl) (HCV.out _ (K0.out.trans ((K4.out.drew.alloc _).alloc _)) _ _ (blk_alloc (blk_new w4.drew (.cells #[.slice a2 k2 c2, .slice b2 l2 d2] 22)) _)) ?_
      rintro u w5 hu
      obtain ⟨p2, g2, rfl, ro2, k5'⟩ := hu.ex
      have K5 := hidden (show Same WA w5 from Kept.trans ((K4.out.drew.alloc _).alloc _) k5')
      have RV := hidden (own_low (C := w.heap.size + 3) ro2 (by simp; omega))
      clear hu ro2
      have RK5 := hidden (own_kept RK.out (Kept.trans (((show Same w4 w4.drew from (Kept.refl _ w4).drew).alloc _).alloc _) k5') (fun _ _ h => h))
      have HB13 := hidden (blk_kept k5' (fun h => h) hq)
      clear k5' hq
      refine hK.out _ _ (HS.out _ (HW.out _ K5.out)) (fun _ => ?_); clear hK K; (try go_simp)
      refine wpAnyH_ready (rs := [14]) (by kernel_rfl) (by simp) ?_
      refine (AllReadyH.cons rfl (fun K hK => ?_) AllReadyH.nil)
      refine step_call rfl 57 #[.slice (some ⟨w4.heap.size + 1, 0, none⟩) 2 2] (fun u W => ClI LI _ u W) (by go_simp; try rfl) (HCI.out _ (K0.out.trans (K5.out)) _ _ (HB13.out)) ?_
      rintro u w6 hu
      obtain ⟨p3, g3, rfl, ro3, k6'⟩ := hu.ex
      have K6 := hidden (show Same WA w6 from Kept.trans (K5.out) k6')
      have RI := hidden (own_low (C := w.heap.size + 3) ro3 (by have := K5.out.size; simp; omega))
      have RK6 := hidden (own_kept RK5.out k6' (fun _ _ h => h))
      have RV6 := hidden (own_kept RV.out k6' (fun _ _ h => h))
      clear hu ro3 k6'
      refine hK.out _ _ (HS.out _ (HW.out _ K6.out)) (fun _ => ?_); clear hK K; (try go_simp)
      refine wpAnyH_take (i := 15) (v := (.agg #[.bool false, .slice p1 LK.length g1, .slice p2 LV.length g2, .slice p3 LI.length g3])) rfl (by kernel_rfl) (by kernel_rfl) (by kernel_rfl) (fun _ _ _ h => h) (Or.inl ⟨by rfl, (by intro w hSw; obtain ⟨t0, t1, t2, t3, t4⟩ := hSw; go_simp; try rfl)⟩) (HS.out _ (HW.out _ K6.out)) ?_; (try go_simp)
      have BZ6 := hidden (blk_kept K6.out (fun h => h) BZ.out)
      have e0 := blk_cell (j := 0) BZ6.out; have e1 := blk_cell (j := 1) BZ6.out; have e2 := blk_cell (j := 2) BZ6.out; have e3 := blk_cell (j := 3) BZ6.out; simp at e0 e1 e2 e3
      have ef := (fun j => blk_free (j := j) BZ6.out)
      refine wpAnyH_ready (rs := [16]) (by kernel_rfl) (by simp) ?_
      refine (AllReadyH.cons rfl (fun K hK => ?_) AllReadyH.nil)
      go_simp
      refine hK.out _ _ (HS.out _ ((HW.out _ K6.out).put4 (g := w.heap.size + 2) rfl _ _ _ _)) (fun _ => ?_); clear hK K; (try go_simp)
      refine wpAnyH_ready (rs := [17]) (by kernel_rfl) (by simp) ?_
      refine (AllReadyH.cons rfl (fun K hK => ?_) AllReadyH.nil)
      go_simp
      refine hK.out _ _ (HS.out _ ((HW.out _ K6.out).put4 (g := w.heap.size + 2) rfl _ _ _ _)) (fun _ => ?_); clear hK K; (try go_simp)
      refine wpAnyH_done (by kernel_rfl) ?_ _
      have kf := kept_fill4 (W := w6) (g := w.heap.size + 2) (.bool false) (.slice p1 LK.length g1) (.slice p2 LV.length g2) (.slice p3 LI.length g3)
      have hf := fill4 BZ6.out (.bool false) (.slice p1 LK.length g1) (.slice p2 LV.length g2) (.slice p3 LI.length g3)
      have kfin := hidden (show Same w _ from (K0.out.trans K6.out).trans' kf (fun i hi hs => by change i = _ at hs; omega))
      have Q1 := hidden (own_low (C := w.heap.size) (own_kept RK6.out kf (fun k hk hs => by have := own_geN RK6.out k hk; change k = _ at hs; omega)) (by omega))
      have Q2 := hidden (own_low (C := w.heap.size) (own_kept RV6.out kf (fun k hk hs => by have := own_geN RV6.out k hk; change k = _ at hs; omega)) (by omega))
      have Q3 := hidden (own_low (C := w.heap.size) (own_kept RI.out kf (fun k hk hs => by have := own_geN RI.out k hk; change k = _ at hs; omega)) (by omega))
      clear kf e0 e1 e2 e3 ef
      generalize ((((w6.setCell ⟨w.heap.size + 2, 0, none⟩ (.bool false)).setCell ⟨w.heap.size + 2, 1, none⟩ (.slice p1 LK.length g1)).setCell ⟨w.heap.size + 2, 2, none⟩ (.slice p2 LV.length g2)).setCell ⟨w.heap.size + 2, 3, none⟩ (.slice p3 LI.length g3)) = WF at *
      have s0 := blk_cell (j := 0) hf; have s1 := blk_cell (j := 1) hf; have s2 := blk_cell (j := 2) hf; have s3 := blk_cell (j := 3) hf; simp at s0 s1 s2 s3
      go_wp2
      refine bodyPost_ret (v := .tuple #[.agg #[.bool false, .slice p1 LK.length g1, .slice p2 LV.length g2, .slice p3 LI.length g3], .int .i64 0]) (by simp [results, Tryd.results29, go_sem, s0, s1, s2, s3]) rfl ⟨_, rfl, ⟨_, rfl, ⟨p1, p2, p3, g1, g2, g3, rfl, Q1.out, Q2.out, Q3.out⟩, kfin.out⟩⟩
  · skip
    go_simp
    refine hK.out _ _ (HS.out _ ((HW.out _ K4.out.drew).alloc _)) (fun _ => ?_); clear hK K; (try go_simp)
    refine wpAnyH_ready (rs := [7]) (by kernel_rfl) (by simp) ?_
    refine (AllReadyH.cons rfl (fun K hK => ?_) AllReadyH.nil)
    go_simp
    refine hK.out _ _ (HS.out _ (((HW.out _ K4.out.drew).alloc _).alloc _)) (fun _ => ?_); clear hK K; (try go_simp)
    refine wpAnyH_ready (rs := [8]) (by kernel_rfl) (by simp) ?_
    refine (AllReadyH.cons rfl (fun K hK => ?_) AllReadyH.nil)
    have hq := blk_new (w4.drew.alloc (.cells #[.slice a3 k3 c3, .slice b3 l3 d3] 23)) (.cells #[.slice a2 k2 c2, .slice b2 l2 d2] 22)
    rw [show (w4.drew.alloc (.cells #[.slice a3 k3 c3, .slice b3 l3 d3] 23)).heap.size = w4.heap.size + 1 by simp] at hq
    refine step_call rfl 55 #[.slice (some ⟨w4.heap.size + 1, 0, none⟩) 2 2] (fun u W => ClS LV _ u W) (by go_simp; try rfl) (HCV.out _ (K0.out.trans ((K4.out.drew.alloc _).alloc _)) _ _ (hq)) ?_
    rintro u w5 hu
    obtain ⟨p2, g2, rfl, ro2, k5'⟩ := hu.ex
    have K5 := hidden (show Same WA w5 from Kept.trans ((K4.out.drew.alloc _).alloc _) k5')
    have RV := hidden (own_low (C := w.heap.size + 3) ro2 (by simp; omega))
    clear hu ro2
    have RK5 := hidden (own_kept RK.out (Kept.trans (((show Same w4 w4.drew from (Kept.refl _ w4).drew).alloc _).alloc _) k5') (fun _ _ h => h))
    have HB13 := hidden (blk_kept k5' (fun h => h) (blk_alloc (blk_new w4.drew (.cells #[.slice a3 k3 c3, .slice b3 l3 d3] 23)) (.cells #[.slice a2 k2 c2, .slice b2 l2 d2] 22)))
    clear k5' hq
    refine hK.out _ _ (HS.out _ (HW.out _ K5.out)) (fun _ => ?_); clear hK K; (try go_simp)
    refine wpAnyH_ready (rs := [14]) (by kernel_rfl) (by simp) ?_
    refine (AllReadyH.cons rfl (fun K hK => ?_) AllReadyH.nil)
    refine step_call rfl 57 #[.slice (some ⟨w4.heap.size, 0, none⟩) 2 2] (fun u W => ClI LI _ u W) (by go_simp; try rfl) (HCI.out _ (K0.out.trans (K5.out)) _ _ (HB13.out)) ?_
    rintro u w6 hu
    obtain ⟨p3, g3, rfl, ro3, k6'⟩ := hu.ex
    have K6 := hidden (show Same WA w6 from Kept.trans (K5.out) k6')
    have RI := hidden (own_low (C := w.heap.size + 3) ro3 (by have := K5.out.size; simp; omega))
    have RK6 := hidden (own_kept RK5.out k6' (fun _ _ h => h))
    have RV6 := hidden (own_kept RV.out k6' (fun _ _ h => h))
    clear hu ro3 k6'
    refine hK.out _ _ (HS.out _ (HW.out _ K6.out)) (fun _ => ?_); clear hK K; (try go_simp)
    refine wpAnyH_take (i := 15) (v := (.agg #[.bool false, .slice p1 LK.length g1, .slice p2 LV.length g2, .slice p3 LI.length g3])) rfl (by kernel_rfl) (by kernel_rfl) (by kernel_rfl) (fun _ _ _ h => h) (Or.inl ⟨by rfl, (by intro w hSw; obtain ⟨t0, t1, t2, t3, t4⟩ := hSw; go_simp; try rfl)⟩) (HS.out _ (HW.out _ K6.out)) ?_; (try go_simp)
    have BZ6 := hidden (blk_kept K6.out (fun h => h) BZ.out)
    have e0 := blk_cell (j := 0) BZ6.out; have e1 := blk_cell (j := 1) BZ6.out; have e2 := blk_cell (j := 2) BZ6.out; have e3 := blk_cell (j := 3) BZ6.out; simp at e0 e1 e2 e3
    have ef := (fun j => blk_free (j := j) BZ6.out)
    refine wpAnyH_ready (rs := [16]) (by kernel_rfl) (by simp) ?_
    refine (AllReadyH.cons rfl (fun K hK => ?_) AllReadyH.nil)
    go_simp
    refine hK.out _ _ (HS.out _ ((HW.out _ K6.out).put4 (g := w.heap.size + 2) rfl _ _ _ _)) (fun _ => ?_); clear hK K; (try go_simp)
    refine wpAnyH_ready (rs := [17]) (by kernel_rfl) (by simp) ?_
    refine (AllReadyH.cons rfl (fun K hK => ?_) AllReadyH.nil)
    go_simp
    refine hK.out _ _ (HS.out _ ((HW.out _ K6.out).put4 (g := w.heap.size + 2) rfl _ _ _ _)) (fun _ => ?_); clear hK K; (try go_simp)
    refine wpAnyH_done (by kernel_rfl) ?_ _
    have kf := kept_fill4 (W := w6) (g := w.heap.size + 2) (.bool false) (.slice p1 LK.length g1) (.slice p2 LV.length g2) (.slice p3 LI.length g3)
    have hf := fill4 BZ6.out (.bool false) (.slice p1 LK.length g1) (.slice p2 LV.length g2) (.slice p3 LI.length g3)
    have kfin := hidden (show Same w _ from (K0.out.trans K6.out).trans' kf (fun i hi hs => by change i = _ at hs; omega))
    have Q1 := hidden (own_low (C := w.heap.size) (own_kept RK6.out kf (fun k hk hs => by have := own_geN RK6.out k hk; change k = _ at hs; omega)) (by omega))
    have Q2 := hidden (own_low (C := w.heap.size) (own_kept RV6.out kf (fun k hk hs => by have := own_geN RV6.out k hk; change k = _ at hs; omega)) (by omega))
    have Q3 := hidden (own_low (C := w.heap.size) (own_kept RI.out kf (fun k hk hs => by have := own_geN RI.out k hk; change k = _ at hs; omega)) (by omega))
    clear kf e0 e1 e2 e3 ef
    generalize ((((w6.setCell ⟨w.heap.size + 2, 0, none⟩ (.bool false)).setCell ⟨w.heap.size + 2, 1, none⟩ (.slice p1 LK.length g1)).setCell ⟨w.heap.size + 2, 2, none⟩ (.slice p2 LV.length g2)).setCell ⟨w.heap.size + 2, 3, none⟩ (.slice p3 LI.length g3)) = WF at *
    have s0 := blk_cell (j := 0) hf; have s1 := blk_cell (j := 1) hf; have s2 := blk_cell (j := 2) hf; have s3 := blk_cell (j := 3) hf; simp at s0 s1 s2 s3
    go_wp2
    refine bodyPost_ret (v := .tuple #[.agg #[.bool false, .slice p1 LK.length g1, .slice p2 LV.length g2, .slice p3 LI.length g3], .int .i64 0]) (by simp [results, Tryd.results29, go_sem, s0, s1, s2, s3]) rfl ⟨_, rfl, ⟨_, rfl, ⟨p1, p2, p3, g1, g2, g3, rfl, Q1.out, Q2.out, Q3.out⟩, kfin.out⟩⟩
end Go.Proofs.YtpjgghalnkfdkaaDoor
