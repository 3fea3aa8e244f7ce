/- node: Split of both, Join, Size: leaves and inner nodes in one. -/
import Derived.Test.YtmkjmdiliaaepaaDoorN48
import Derived.Deep.RegionHeld3
import Derived.Test.YtmkjmdiliaaepaaDoorN45
import Derived.Test.YtmkjmdiliaaepaaDoorN52
import Derived.Test.YtmkjmdiliaaepaaDoorN12
/- node: Join of two inner nodes. (Made by mkn48.py.) -/
namespace Go.Proofs.YtmkjmdiliaaepaaDoor
open Go.RowKit
set_option linter.unusedVariables false
set_option linter.unusedSimpArgs false
set_option maxHeartbeats 2000000 in
set_option maxRecDepth 100000 in
theorem join_inner (n : Nd) (a1 a2 a3 : Option Addr) (k1 c1 k2 c2 k3 c3 : Nat) (m : Nd) (b1 b2 b3 : Option Addr) (l1 d1 l2 d2 l3 d3 : Nat) (key : ByteArray) (w : World) (r1 : Row w (.slice a1 k1 c1) (TS n.keys)) (r2 : Row w (.slice a2 k2 c2) (TS n.vals)) (r3 : Row w (.slice a3 k3 c3) (IS n.kids)) (s1 : Row w (.slice b1 l1 d1) (TS m.keys)) (s2 : Row w (.slice b2 l2 d2) (TS m.vals)) (s3 : Row w (.slice b3 l3 d3) (IS m.kids)) (hb : n.Bd) (hb' : m.Bd) (hl : n.leaf = false) (hl' : m.leaf = false) (hp : n.part = 0) (hp' : m.part = 0) (hr : rises (n.keys ++ [key] ++ m.keys) = true) (hN1 : (k1 + l1 + 1) * 16 ≤ 140737488355328) (hN2 : (k2 + l2) * 16 ≤ 140737488355328) (hN3 : (k3 + l3) * 8 ≤ 140737488355328) :
    Calls Tryd.prog 29 #[.agg #[.bool n.leaf, .slice a1 k1 c1, .slice a2 k2 c2, .slice a3 k3 c3], .string key, .agg #[.bool m.leaf, .slice b1 l1 d1, .slice b2 l2 d2, .slice b3 l3 d3]] w fun e w' => ∃ u, e = .returned u ∧ JnR ⟨false, n.keys ++ [key] ++ m.keys, n.vals ++ m.vals, n.kids ++ m.kids⟩ w u w' := by
  have HC1 := hidden (fun W (k : Same w W) => checkPart_any n a1 a2 a3 k1 c1 k2 c2 k3 c3 W (r1.same k) (r2.same k) (r3.same k) hb)
  have HC2 := hidden (fun W (k : Same w W) => checkPart_any m b1 b2 b3 l1 d1 l2 d2 l3 d3 W (s1.same k) (s2.same k) (s3.same k) hb')
  rw [hp] at HC1
  rw [hp'] at HC2
  rw [hl] at HC1 ⊢
  rw [hl'] at HC2 ⊢
  have e1 := r1.tl
  have e2 := r2.tl
  have e3 := r3.il
  have f1 := s1.tl
  have f2 := s2.tl
  have f3 := s3.il
  have HCK := hidden (fun W (k : Same w W) (g : Nat) (t : TypeId) (g1 : Nat) (hg : W.heap[g]? = some (.cells #[.slice a1 k1 c1, .slice (some ⟨g1, 0, none⟩) 1 1, .slice b1 l1 d1] t (0, 0))) (hk : W.cell? ⟨g1, 0, none⟩ = some (.string key)) => concat3S n.keys [key] m.keys g t a1 (some ⟨g1, 0, none⟩) b1 k1 1 l1 c1 1 d1 W hg e1 rfl f1 (r1.same k) (row_one hk) (s1.same k) (by omega))
  have HR := hidden (fun W u c (r : Row W (.slice u (n.keys ++ [key] ++ m.keys).length c) (TS (n.keys ++ [key] ++ m.keys))) => rise_any (n.keys ++ [key] ++ m.keys) u (n.keys ++ [key] ++ m.keys).length c W r (by simp; omega))
  rw [hr] at HR
  have HCV := hidden (fun W (k : Same w W) (g : Nat) (t : TypeId) (hg : W.heap[g]? = some (.cells #[.slice a2 k2 c2, .slice b2 l2 d2] t (0, 0))) => concat2S n.vals m.vals g t a2 b2 k2 l2 c2 d2 W hg e2 f2 (r2.same k) (s2.same k) hN2)
  have HCI := hidden (fun W (k : Same w W) (g : Nat) (t : TypeId) (hg : W.heap[g]? = some (.cells #[.slice a3 k3 c3, .slice b3 l3 d3] t (0, 0))) => concat2I n.kids m.kids g t a3 b3 k3 l3 c3 d3 W hg e3 f3 (r3.same k) (s3.same k) hN3)
  generalize n.keys ++ [key] ++ m.keys = LK at *
  generalize n.vals ++ m.vals = LV at *
  generalize n.kids ++ m.kids = LI at *
  clear r1 r2 r3 s1 s2 s3 hb hb' hl hl' hp hp' hr e1 e2 e3 f1 f2 f3 hN1 hN2 hN3
  have bx := blk_alloc (blk_alloc (blk_new w (.cells #[.bool false, .slice a1 k1 c1, .slice a2 k2 c2, .slice a3 k3 c3] 25)) (.cells #[.bool false, .slice b1 l1 d1, .slice b2 l2 d2, .slice b3 l3 d3] 25)) (.cells #[.bool false, .slice none 0 0, .slice none 0 0, .slice none 0 0] 25)
  have by' := blk_alloc (blk_new (w.alloc (.cells #[.bool false, .slice a1 k1 c1, .slice a2 k2 c2, .slice a3 k3 c3] 25)) (.cells #[.bool false, .slice b1 l1 d1, .slice b2 l2 d2, .slice b3 l3 d3] 25)) (.cells #[.bool false, .slice none 0 0, .slice none 0 0, .slice none 0 0] 25)
  have bz' := blk_new ((w.alloc (.cells #[.bool false, .slice a1 k1 c1, .slice a2 k2 c2, .slice a3 k3 c3] 25)).alloc (.cells #[.bool false, .slice b1 l1 d1, .slice b2 l2 d2, .slice b3 l3 d3] 25)) (.cells #[.bool false, .slice none 0 0, .slice none 0 0, .slice none 0 0] 25)
  rw [show (w.alloc (.cells #[.bool false, .slice a1 k1 c1, .slice a2 k2 c2, .slice a3 k3 c3] 25)).heap.size = w.heap.size + 1 by simp] at by'
  rw [show ((w.alloc (.cells #[.bool false, .slice a1 k1 c1, .slice a2 k2 c2, .slice a3 k3 c3] 25)).alloc (.cells #[.bool false, .slice b1 l1 d1, .slice b2 l2 d2, .slice b3 l3 d3] 25)).heap.size = w.heap.size + 2 by simp] at bz'
  have K0 := hidden (((same_alloc w (.cells #[.bool false, .slice a1 k1 c1, .slice a2 k2 c2, .slice a3 k3 c3] 25)).alloc (.cells #[.bool false, .slice b1 l1 d1, .slice b2 l2 d2, .slice b3 l3 d3] 25)).alloc (.cells #[.bool false, .slice none 0 0, .slice none 0 0, .slice none 0 0] 25))
  have zA : (((w.alloc (.cells #[.bool false, .slice a1 k1 c1, .slice a2 k2 c2, .slice a3 k3 c3] 25)).alloc (.cells #[.bool false, .slice b1 l1 d1, .slice b2 l2 d2, .slice b3 l3 d3] 25)).alloc (.cells #[.bool false, .slice none 0 0, .slice none 0 0, .slice none 0 0] 25)).heap.size = w.heap.size + 3 := by simp
  have BX := hidden bx
  have BY := hidden by'
  have BZ := hidden bz'
  clear bx by' bz'
  go_enter Tryd.func29, Tryd.ntmps29
  go_wp2_with (first
    | (go_at_call 39; refine (HC2.out _ (K0.out.trans K1.out)).mono ?_; rintro e w2 ⟨rfl, q2⟩; have K2 := hidden (K1.out.trans q2); have x0 := blk_cell (j := 0) (blk_kept K2.out (fun h => h) BX.out); have x1 := blk_cell (j := 1) (blk_kept K2.out (fun h => h) BX.out); have x2 := blk_cell (j := 2) (blk_kept K2.out (fun h => h) BX.out); have x3 := blk_cell (j := 3) (blk_kept K2.out (fun h => h) BX.out); simp at x0 x1 x2 x3; have y0 := blk_cell (j := 0) (blk_kept K2.out (fun h => h) BY.out); have y1 := blk_cell (j := 1) (blk_kept K2.out (fun h => h) BY.out); have y2 := blk_cell (j := 2) (blk_kept K2.out (fun h => h) BY.out); have y3 := blk_cell (j := 3) (blk_kept K2.out (fun h => h) BY.out); simp at y0 y1 y2 y3; have u0 := blk_cell (j := 0) (blk_alloc (blk_kept K2.out (fun h => h) BX.out) (.cells #[.string key] 9)); have u1 := blk_cell (j := 1) (blk_alloc (blk_kept K2.out (fun h => h) BX.out) (.cells #[.string key] 9)); have u2 := blk_cell (j := 2) (blk_alloc (blk_kept K2.out (fun h => h) BX.out) (.cells #[.string key] 9)); have u3 := blk_cell (j := 3) (blk_alloc (blk_kept K2.out (fun h => h) BX.out) (.cells #[.string key] 9)); simp at u0 u1 u2 u3; have v0 := blk_cell (j := 0) (blk_alloc (blk_kept K2.out (fun h => h) BY.out) (.cells #[.string key] 9)); have v1 := blk_cell (j := 1) (blk_alloc (blk_kept K2.out (fun h => h) BY.out) (.cells #[.string key] 9)); have v2 := blk_cell (j := 2) (blk_alloc (blk_kept K2.out (fun h => h) BY.out) (.cells #[.string key] 9)); have v3 := blk_cell (j := 3) (blk_alloc (blk_kept K2.out (fun h => h) BY.out) (.cells #[.string key] 9)); simp at v0 v1 v2 v3; clear q2)
    | (go_at_call 39; refine (HC1.out _ K0.out).mono ?_; rintro e w1 ⟨rfl, q1⟩; have K1 := hidden q1; have x0 := blk_cell (j := 0) (blk_kept q1 (fun h => h) BX.out); have x1 := blk_cell (j := 1) (blk_kept q1 (fun h => h) BX.out); have x2 := blk_cell (j := 2) (blk_kept q1 (fun h => h) BX.out); have x3 := blk_cell (j := 3) (blk_kept q1 (fun h => h) BX.out); simp at x0 x1 x2 x3; have y0 := blk_cell (j := 0) (blk_kept q1 (fun h => h) BY.out); have y1 := blk_cell (j := 1) (blk_kept q1 (fun h => h) BY.out); have y2 := blk_cell (j := 2) (blk_kept q1 (fun h => h) BY.out); have y3 := blk_cell (j := 3) (blk_kept q1 (fun h => h) BY.out); simp at y0 y1 y2 y3; clear q1)
    | (go_at_call 56; refine (HR.out _ _ _ (Row.own RO1.out)).mono ?_; rintro e w4 ⟨rfl, q4⟩; have K4 := hidden (K3.out.trans q4); have RK := hidden (own_low (C := w.heap.size + 3) (own_kept RO1.out q4 (fun _ _ h => h)) (by have := K2.out.size; simp at this ⊢; omega)); clear q4)
    | (go_at_call 55; refine (HCK.out _ (((K0.out.trans K2.out).alloc _).alloc _) _ _ _ (show (World.alloc (World.alloc w2 _) _).heap[w2.heap.size + 1]? = _ by have hq := blk_new (w2.alloc (.cells #[.string key] 9)) (.cells #[.slice a1 k1 c1, .slice (some ⟨w2.heap.size, 0, none⟩) 1 1, .slice b1 l1 d1] 22); rw [show (w2.alloc (.cells #[.string key] 9)).heap.size = w2.heap.size + 1 by simp] at hq; exact hq) ((blk_cell (j := 0) (blk_alloc (blk_new w2 (.cells #[.string key] 9)) _)).trans rfl)).mono ?_; rintro e w3 ⟨u, rfl, hu⟩; obtain ⟨p1, g1, rfl, ro1, k3'⟩ := hu.ex; have K3 := hidden (Kept.trans ((K2.out.alloc _).alloc _) k3'); have RO1 := hidden ro1; clear hu k3' ro1))
  clear RO1 K1 K2 K3 x0 x1 x2 x3 y0 y1 y2 y3 u0 u1 u2 u3 v0 v1 v2 v3
  generalize (((w.alloc (.cells #[.bool false, .slice a1 k1 c1, .slice a2 k2 c2, .slice a3 k3 c3] 25)).alloc (.cells #[.bool false, .slice b1 l1 d1, .slice b2 l2 d2, .slice b3 l3 d3] 25)).alloc (.cells #[.bool false, .slice none 0 0, .slice none 0 0, .slice none 0 0] 25)) = WA at *
  have hmx : Tryd.prog.follows .mixedOrders = true := by kernel_rfl
  have HS : Hid (∀ W, Kept (fun k => k = w.heap.size + 2) WA W → (fun W : World => W.cell? ⟨w.heap.size, 0, none⟩ = some (.bool false) ∧ W.cell? ⟨w.heap.size, 2, none⟩ = some (.slice a2 k2 c2) ∧ W.cell? ⟨w.heap.size, 3, none⟩ = some (.slice a3 k3 c3) ∧ W.cell? ⟨w.heap.size + 1, 2, none⟩ = some (.slice b2 l2 d2) ∧ W.cell? ⟨w.heap.size + 1, 3, none⟩ = some (.slice b3 l3 d3)) W) := hidden (fun W kk => ⟨(blk_cell (blk_kept kk (fun h => by omega) BX.out)).trans rfl, (blk_cell (blk_kept kk (fun h => by omega) BX.out)).trans rfl, (blk_cell (blk_kept kk (fun h => by omega) BX.out)).trans rfl, (blk_cell (blk_kept kk (fun h => by omega) BY.out)).trans rfl, (blk_cell (blk_kept kk (fun h => by omega) BY.out)).trans rfl⟩)
  have HW : Hid (∀ W, Same WA W → Kept (fun k => k = w.heap.size + 2) WA W) := hidden (fun W k => k.mono (fun i _ h => False.elim h))
  have z4 := K4.out.size
  refine wp_region_held_drew (S := (fun W : World => W.cell? ⟨w.heap.size, 0, none⟩ = some (.bool false) ∧ W.cell? ⟨w.heap.size, 2, none⟩ = some (.slice a2 k2 c2) ∧ W.cell? ⟨w.heap.size, 3, none⟩ = some (.slice a3 k3 c3) ∧ W.cell? ⟨w.heap.size + 1, 2, none⟩ = some (.slice b2 l2 d2) ∧ W.cell? ⟨w.heap.size + 1, 3, none⟩ = some (.slice b3 l3 d3))) hmx (HS.out _ (HW.out _ K4.out.drew)) (fun _ => ?_)
  refine wpAnyH_take (i := 0) (v := (.pointer (some ⟨w.heap.size, 0, none⟩))) rfl (by kernel_rfl) (by kernel_rfl) (by kernel_rfl) (fun _ _ _ h => h) (Or.inl ⟨by rfl, (by intro w hSw; obtain ⟨t0, t1, t2, t3, t4⟩ := hSw; go_simp; try rfl)⟩) (HS.out _ (HW.out _ K4.out.drew)) ?_; (try go_simp)
  refine wpAnyH_take (i := 1) (v := (.bool false)) rfl (by kernel_rfl) (by kernel_rfl) (by kernel_rfl) (fun _ _ _ h => h) (Or.inl ⟨by rfl, (by intro w hSw; obtain ⟨t0, t1, t2, t3, t4⟩ := hSw; go_simp; try rfl)⟩) (HS.out _ (HW.out _ K4.out.drew)) ?_; (try go_simp)
  refine wpAnyH_take (i := 2) (v := (.slice p1 LK.length g1)) rfl (by kernel_rfl) (by kernel_rfl) (by kernel_rfl) (fun _ _ _ h => h) (Or.inl ⟨by rfl, (by intro w hSw; obtain ⟨t0, t1, t2, t3, t4⟩ := hSw; go_simp; try rfl)⟩) (HS.out _ (HW.out _ K4.out.drew)) ?_; (try go_simp)
  refine wpAnyH_take (i := 3) (v := (.pointer (some ⟨w.heap.size, 2, none⟩))) rfl (by kernel_rfl) (by kernel_rfl) (by kernel_rfl) (fun _ _ _ h => h) (Or.inl ⟨by rfl, (by intro w hSw; obtain ⟨t0, t1, t2, t3, t4⟩ := hSw; go_simp; try rfl)⟩) (HS.out _ (HW.out _ K4.out.drew)) ?_; (try go_simp)
  refine wpAnyH_take (i := 4) (v := (.slice a2 k2 c2)) rfl (by kernel_rfl) (by kernel_rfl) (by kernel_rfl) (fun _ _ _ h => h) (Or.inl ⟨by rfl, (by intro w hSw; obtain ⟨t0, t1, t2, t3, t4⟩ := hSw; go_simp; try rfl)⟩) (HS.out _ (HW.out _ K4.out.drew)) ?_; (try go_simp)
  refine wpAnyH_take (i := 5) (v := (.pointer (some ⟨w.heap.size + 1, 2, none⟩))) rfl (by kernel_rfl) (by kernel_rfl) (by kernel_rfl) (fun _ _ _ h => h) (Or.inl ⟨by rfl, (by intro w hSw; obtain ⟨t0, t1, t2, t3, t4⟩ := hSw; go_simp; try rfl)⟩) (HS.out _ (HW.out _ K4.out.drew)) ?_; (try go_simp)
  refine wpAnyH_take (i := 6) (v := (.slice b2 l2 d2)) rfl (by kernel_rfl) (by kernel_rfl) (by kernel_rfl) (fun _ _ _ h => h) (Or.inl ⟨by rfl, (by intro w hSw; obtain ⟨t0, t1, t2, t3, t4⟩ := hSw; go_simp; try rfl)⟩) (HS.out _ (HW.out _ K4.out.drew)) ?_; (try go_simp)
  refine wpAnyH_take (i := 9) (v := (.pointer (some ⟨w.heap.size, 3, none⟩))) rfl (by kernel_rfl) (by kernel_rfl) (by kernel_rfl) (fun _ _ _ h => h) (Or.inl ⟨by rfl, (by intro w hSw; obtain ⟨t0, t1, t2, t3, t4⟩ := hSw; go_simp; try rfl)⟩) (HS.out _ (HW.out _ K4.out.drew)) ?_; (try go_simp)
  refine wpAnyH_take (i := 10) (v := (.slice a3 k3 c3)) rfl (by kernel_rfl) (by kernel_rfl) (by kernel_rfl) (fun _ _ _ h => h) (Or.inl ⟨by rfl, (by intro w hSw; obtain ⟨t0, t1, t2, t3, t4⟩ := hSw; go_simp; try rfl)⟩) (HS.out _ (HW.out _ K4.out.drew)) ?_; (try go_simp)
  refine wpAnyH_take (i := 11) (v := (.pointer (some ⟨w.heap.size + 1, 3, none⟩))) rfl (by kernel_rfl) (by kernel_rfl) (by kernel_rfl) (fun _ _ _ h => h) (Or.inl ⟨by rfl, (by intro w hSw; obtain ⟨t0, t1, t2, t3, t4⟩ := hSw; go_simp; try rfl)⟩) (HS.out _ (HW.out _ K4.out.drew)) ?_; (try go_simp)
  refine wpAnyH_take (i := 12) (v := (.slice b3 l3 d3)) rfl (by kernel_rfl) (by kernel_rfl) (by kernel_rfl) (fun _ _ _ h => h) (Or.inl ⟨by rfl, (by intro w hSw; obtain ⟨t0, t1, t2, t3, t4⟩ := hSw; go_simp; try rfl)⟩) (HS.out _ (HW.out _ K4.out.drew)) ?_; (try go_simp)
  refine wpAnyH_ready (rs := [7, 13]) (by kernel_rfl) (by simp) ?_
  refine (AllReadyH.cons rfl (fun K hK => ?_) (AllReadyH.cons rfl (fun K hK => ?_) AllReadyH.nil))
  · skip
    go_simp
    refine hK.out _ _ (HS.out _ ((HW.out _ K4.out.drew).alloc _)) (fun _ => ?_); clear hK K; (try go_simp)
    refine wpAnyH_ready (rs := [8, 13]) (by kernel_rfl) (by simp) ?_
    refine (AllReadyH.cons rfl (fun K hK => ?_) (AllReadyH.cons rfl (fun K hK => ?_) AllReadyH.nil))
    · skip
      refine step_call rfl 55 #[.slice (some ⟨w4.heap.size, 0, none⟩) 2 2] (fun u W => ClS LV _ u W) (by go_simp; try rfl) (HCV.out _ (K0.out.trans (K4.out.drew.alloc _)) _ _ (blk_new w4.drew (.cells #[.slice a2 k2 c2, .slice b2 l2 d2] 22))) ?_
      rintro u w5 hu
      obtain ⟨p2, g2, rfl, ro2, k5'⟩ := hu.ex
      have K5 := hidden (show Same WA w5 from Kept.trans (K4.out.drew.alloc _) k5')
      have RV := hidden (own_low (C := w.heap.size + 3) ro2 (by simp; omega))
      clear hu ro2
      have RK5 := hidden (own_kept RK.out (Kept.trans ((show Same w4 w4.drew from (Kept.refl _ w4).drew).alloc _) k5') (fun _ _ h => h))
      clear k5'
      refine hK.out _ _ (HS.out _ (HW.out _ K5.out)) (fun _ => ?_); clear hK K; (try go_simp)
      refine wpAnyH_ready (rs := [13]) (by kernel_rfl) (by simp) ?_
      refine (AllReadyH.cons rfl (fun K hK => ?_) AllReadyH.nil)
      go_simp
      refine hK.out _ _ (HS.out _ ((HW.out _ K5.out).alloc _)) (fun _ => ?_); clear hK K; (try go_simp)
      refine wpAnyH_ready (rs := [14]) (by kernel_rfl) (by simp) ?_
      refine (AllReadyH.cons rfl (fun K hK => ?_) AllReadyH.nil)
      refine step_call rfl 57 #[.slice (some ⟨w5.heap.size, 0, none⟩) 2 2] (fun u W => ClI LI _ u W) (by go_simp; try rfl) (HCI.out _ (K0.out.trans (K5.out.alloc _)) _ _ (blk_new w5 (.cells #[.slice a3 k3 c3, .slice b3 l3 d3] 23))) ?_
      rintro u w6 hu
      obtain ⟨p3, g3, rfl, ro3, k6'⟩ := hu.ex
      have K6 := hidden (show Same WA w6 from Kept.trans (K5.out.alloc _) k6')
      have RI := hidden (own_low (C := w.heap.size + 3) ro3 (by have := K5.out.size; simp; omega))
      have RK6 := hidden (own_kept RK5.out (Kept.trans (same_alloc w5 _) k6') (fun _ _ h => h))
      have RV6 := hidden (own_kept RV.out (Kept.trans (same_alloc w5 _) k6') (fun _ _ h => h))
      clear hu ro3 k6'
      refine hK.out _ _ (HS.out _ (HW.out _ K6.out)) (fun _ => ?_); clear hK K; (try go_simp)
      refine wpAnyH_take (i := 15) (v := (.agg #[.bool false, .slice p1 LK.length g1, .slice p2 LV.length g2, .slice p3 LI.length g3])) rfl (by kernel_rfl) (by kernel_rfl) (by kernel_rfl) (fun _ _ _ h => h) (Or.inl ⟨by rfl, (by intro w hSw; obtain ⟨t0, t1, t2, t3, t4⟩ := hSw; go_simp; try rfl)⟩) (HS.out _ (HW.out _ K6.out)) ?_; (try go_simp)
      have BZ6 := hidden (blk_kept K6.out (fun h => h) BZ.out)
      have e0 := blk_cell (j := 0) BZ6.out; have e1 := blk_cell (j := 1) BZ6.out; have e2 := blk_cell (j := 2) BZ6.out; have e3 := blk_cell (j := 3) BZ6.out; simp at e0 e1 e2 e3
      have ef := (fun j => blk_free (j := j) BZ6.out)
      refine wpAnyH_ready (rs := [16]) (by kernel_rfl) (by simp) ?_
      refine (AllReadyH.cons rfl (fun K hK => ?_) AllReadyH.nil)
      go_simp
      refine hK.out _ _ (HS.out _ ((HW.out _ K6.out).put4 (g := w.heap.size + 2) rfl _ _ _ _)) (fun _ => ?_); clear hK K; (try go_simp)
      refine wpAnyH_ready (rs := [17]) (by kernel_rfl) (by simp) ?_
      refine (AllReadyH.cons rfl (fun K hK => ?_) AllReadyH.nil)
      go_simp
      refine hK.out _ _ (HS.out _ ((HW.out _ K6.out).put4 (g := w.heap.size + 2) rfl _ _ _ _)) (fun _ => ?_); clear hK K; (try go_simp)
      refine wpAnyH_done (by kernel_rfl) ?_ _
      have kf := kept_fill4 (W := w6) (g := w.heap.size + 2) (.bool false) (.slice p1 LK.length g1) (.slice p2 LV.length g2) (.slice p3 LI.length g3)
      have hf := fill4 BZ6.out (.bool false) (.slice p1 LK.length g1) (.slice p2 LV.length g2) (.slice p3 LI.length g3)
      have kfin := hidden (show Same w _ from (K0.out.trans K6.out).trans' kf (fun i hi hs => by change i = _ at hs; omega))
      have Q1 := hidden (own_low (C := w.heap.size) (own_kept RK6.out kf (fun k hk hs => by have := own_geN RK6.out k hk; change k = _ at hs; omega)) (by omega))
      have Q2 := hidden (own_low (C := w.heap.size) (own_kept RV6.out kf (fun k hk hs => by have := own_geN RV6.out k hk; change k = _ at hs; omega)) (by omega))
      have Q3 := hidden (own_low (C := w.heap.size) (own_kept RI.out kf (fun k hk hs => by have := own_geN RI.out k hk; change k = _ at hs; omega)) (by omega))
      clear kf e0 e1 e2 e3 ef
      generalize ((((w6.setCell ⟨w.heap.size + 2, 0, none⟩ (.bool false)).setCell ⟨w.heap.size + 2, 1, none⟩ (.slice p1 LK.length g1)).setCell ⟨w.heap.size + 2, 2, none⟩ (.slice p2 LV.length g2)).setCell ⟨w.heap.size + 2, 3, none⟩ (.slice p3 LI.length g3)) = WF at *
      have s0 := blk_cell (j := 0) hf; have s1 := blk_cell (j := 1) hf; have s2 := blk_cell (j := 2) hf; have s3 := blk_cell (j := 3) hf; simp at s0 s1 s2 s3
      go_wp2
      refine bodyPost_ret (v := .tuple #[.agg #[.bool false, .slice p1 LK.length g1, .slice p2 LV.length g2, .slice p3 LI.length g3], .int .i64 0]) (by simp [results, Tryd.results29, go_sem, s0, s1, s2, s3]) rfl ⟨_, rfl, ⟨_, rfl, ⟨p1, p2, p3, g1, g2, g3, rfl, Q1.out, Q2.out, Q3.out⟩, kfin.out⟩⟩
    · skip
      go_simp
      refine hK.out _ _ (HS.out _ (((HW.out _ K4.out.drew).alloc _).alloc _)) (fun _ => ?_); clear hK K; (try go_simp)
      refine wpAnyH_ready (rs := [8]) (by kernel_rfl) (by simp) ?_
      refine (AllReadyH.cons rfl (fun K hK => ?_) AllReadyH.nil)
      have hq := blk_new (w4.drew.alloc (.cells #[.slice a2 k2 c2, .slice b2 l2 d2] 22)) (.cells #[.slice a3 k3 c3, .slice b3 l3 d3] 23)
      rw [show (w4.drew.alloc (.cells #[.slice a2 k2 c2, .slice b2 l2 d2] 22)).heap.size = w4.heap.size + 1 by simp] at hq
      refine step_call rfl 55 #[.slice (some ⟨w4.heap.size, 0, none⟩) 2 2] (fun u W => ClS LV _ u W) (by go_simp; try rfl) (HCV.out _ (K0.out.trans ((K4.out.drew.alloc _).alloc _)) _ _ (blk_alloc (blk_new w4.drew (.cells #[.slice a2 k2 c2, .slice b2 l2 d2] 22)) _)) ?_
      rintro u w5 hu
      obtain ⟨p2, g2, rfl, ro2, k5'⟩ := hu.ex
      have K5 := hidden (show Same WA w5 from Kept.trans ((K4.out.drew.alloc _).alloc _) k5')
      have RV := hidden (own_low (C := w.heap.size + 3) ro2 (by simp; omega))
      clear hu ro2
      have RK5 := hidden (own_kept RK.out (Kept.trans (((show Same w4 w4.drew from (Kept.refl _ w4).drew).alloc _).alloc _) k5') (fun _ _ h => h))
      have HB13 := hidden (blk_kept k5' (fun h => h) hq)
      clear k5' hq
      refine hK.out _ _ (HS.out _ (HW.out _ K5.out)) (fun _ => ?_); clear hK K; (try go_simp)
      refine wpAnyH_ready (rs := [14]) (by kernel_rfl) (by simp) ?_
      refine (AllReadyH.cons rfl (fun K hK => ?_) AllReadyH.nil)
      refine step_call rfl 57 #[.slice (some ⟨w4.heap.size + 1, 0, none⟩) 2 2] (fun u W => ClI LI _ u W) (by go_simp; try rfl) (HCI.out _ (K0.out.trans (K5.out)) _ _ (HB13.out)) ?_
      rintro u w6 hu
      obtain ⟨p3, g3, rfl, ro3, k6'⟩ := hu.ex
      have K6 := hidden (show Same WA w6 from Kept.trans (K5.out) k6')
      have RI := hidden (own_low (C := w.heap.size + 3) ro3 (by have := K5.out.size; simp; omega))
      have RK6 := hidden (own_kept RK5.out k6' (fun _ _ h => h))
      have RV6 := hidden (own_kept RV.out k6' (fun _ _ h => h))
      clear hu ro3 k6'
      refine hK.out _ _ (HS.out _ (HW.out _ K6.out)) (fun _ => ?_); clear hK K; (try go_simp)
      refine wpAnyH_take (i := 15) (v := (.agg #[.bool false, .slice p1 LK.length g1, .slice p2 LV.length g2, .slice p3 LI.length g3])) rfl (by kernel_rfl) (by kernel_rfl) (by kernel_rfl) (fun _ _ _ h => h) (Or.inl ⟨by rfl, (by intro w hSw; obtain ⟨t0, t1, t2, t3, t4⟩ := hSw; go_simp; try rfl)⟩) (HS.out _ (HW.out _ K6.out)) ?_; (try go_simp)
      have BZ6 := hidden (blk_kept K6.out (fun h => h) BZ.out)
      have e0 := blk_cell (j := 0) BZ6.out; have e1 := blk_cell (j := 1) BZ6.out; have e2 := blk_cell (j := 2) BZ6.out; have e3 := blk_cell (j := 3) BZ6.out; simp at e0 e1 e2 e3
      have ef := (fun j => blk_free (j := j) BZ6.out)
      refine wpAnyH_ready (rs := [16]) (by kernel_rfl) (by simp) ?_
      refine (AllReadyH.cons rfl (fun K hK => ?_) AllReadyH.nil)
      go_simp
      refine hK.out _ _ (HS.out _ ((HW.out _ K6.out).put4 (g := w.heap.size + 2) rfl _ _ _ _)) (fun _ => ?_); clear hK K; (try go_simp)
      refine wpAnyH_ready (rs := [17]) (by kernel_rfl) (by simp) ?_
      refine (AllReadyH.cons rfl (fun K hK => ?_) AllReadyH.nil)
      go_simp
      refine hK.out _ _ (HS.out _ ((HW.out _ K6.out).put4 (g := w.heap.size + 2) rfl _ _ _ _)) (fun _ => ?_); clear hK K; (try go_simp)
      refine wpAnyH_done (by kernel_rfl) ?_ _
      have kf := kept_fill4 (W := w6) (g := w.heap.size + 2) (.bool false) (.slice p1 LK.length g1) (.slice p2 LV.length g2) (.slice p3 LI.length g3)
      have hf := fill4 BZ6.out (.bool false) (.slice p1 LK.length g1) (.slice p2 LV.length g2) (.slice p3 LI.length g3)
      have kfin := hidden (show Same w _ from (K0.out.trans K6.out).trans' kf (fun i hi hs => by change i = _ at hs; omega))
      have Q1 := hidden (own_low (C := w.heap.size) (own_kept RK6.out kf (fun k hk hs => by have := own_geN RK6.out k hk; change k = _ at hs; omega)) (by omega))
      have Q2 := hidden (own_low (C := w.heap.size) (own_kept RV6.out kf (fun k hk hs => by have := own_geN RV6.out k hk; change k = _ at hs; omega)) (by omega))
      have Q3 := hidden (own_low (C := w.heap.size) (own_kept RI.out kf (fun k hk hs => by have := own_geN RI.out k hk; change k = _ at hs; omega)) (by omega))
      clear kf e0 e1 e2 e3 ef
      generalize ((((w6.setCell ⟨w.heap.size + 2, 0, none⟩ (.bool false)).setCell ⟨w.heap.size + 2, 1, none⟩ (.slice p1 LK.length g1)).setCell ⟨w.heap.size + 2, 2, none⟩ (.slice p2 LV.length g2)).setCell ⟨w.heap.size + 2, 3, none⟩ (.slice p3 LI.length g3)) = WF at *
      have s0 := blk_cell (j := 0) hf; have s1 := blk_cell (j := 1) hf; have s2 := blk_cell (j := 2) hf; have s3 := blk_cell (j := 3) hf; simp at s0 s1 s2 s3
      go_wp2
      refine bodyPost_ret (v := .tuple #[.agg #[.bool false, .slice p1 LK.length g1, .slice p2 LV.length g2, .slice p3 LI.length g3], .int .i64 0]) (by simp [results, Tryd.results29, go_sem, s0, s1, s2, s3]) rfl ⟨_, rfl, ⟨_, rfl, ⟨p1, p2, p3, g1, g2, g3, rfl, Q1.out, Q2.out, Q3.out⟩, kfin.out⟩⟩
  · skip
    go_simp
    refine hK.out _ _ (HS.out _ ((HW.out _ K4.out.drew).alloc _)) (fun _ => ?_); clear hK K; (try go_simp)
    refine wpAnyH_ready (rs := [7]) (by kernel_rfl) (by simp) ?_
    refine (AllReadyH.cons rfl (fun K hK => ?_) AllReadyH.nil)
    go_simp
    refine hK.out _ _ (HS.out _ (((HW.out _ K4.out.drew).alloc _).alloc _)) (fun _ => ?_); clear hK K; (try go_simp)
    refine wpAnyH_ready (rs := [8]) (by kernel_rfl) (by simp) ?_
    refine (AllReadyH.cons rfl (fun K hK => ?_) AllReadyH.nil)
    have hq := blk_new (w4.drew.alloc (.cells #[.slice a3 k3 c3, .slice b3 l3 d3] 23)) (.cells #[.slice a2 k2 c2, .slice b2 l2 d2] 22)
    rw [show (w4.drew.alloc (.cells #[.slice a3 k3 c3, .slice b3 l3 d3] 23)).heap.size = w4.heap.size + 1 by simp] at hq
    refine step_call rfl 55 #[.slice (some ⟨w4.heap.size + 1, 0, none⟩) 2 2] (fun u W => ClS LV _ u W) (by go_simp; try rfl) (HCV.out _ (K0.out.trans ((K4.out.drew.alloc _).alloc _)) _ _ (hq)) ?_
    rintro u w5 hu
    obtain ⟨p2, g2, rfl, ro2, k5'⟩ := hu.ex
    have K5 := hidden (show Same WA w5 from Kept.trans ((K4.out.drew.alloc _).alloc _) k5')
    have RV := hidden (own_low (C := w.heap.size + 3) ro2 (by simp; omega))
    clear hu ro2
    have RK5 := hidden (own_kept RK.out (Kept.trans (((show Same w4 w4.drew from (Kept.refl _ w4).drew).alloc _).alloc _) k5') (fun _ _ h => h))
    have HB13 := hidden (blk_kept k5' (fun h => h) (blk_alloc (blk_new w4.drew (.cells #[.slice a3 k3 c3, .slice b3 l3 d3] 23)) (.cells #[.slice a2 k2 c2, .slice b2 l2 d2] 22)))
    clear k5' hq
    refine hK.out _ _ (HS.out _ (HW.out _ K5.out)) (fun _ => ?_); clear hK K; (try go_simp)
    refine wpAnyH_ready (rs := [14]) (by kernel_rfl) (by simp) ?_
    refine (AllReadyH.cons rfl (fun K hK => ?_) AllReadyH.nil)
    refine step_call rfl 57 #[.slice (some ⟨w4.heap.size, 0, none⟩) 2 2] (fun u W => ClI LI _ u W) (by go_simp; try rfl) (HCI.out _ (K0.out.trans (K5.out)) _ _ (HB13.out)) ?_
    rintro u w6 hu
    obtain ⟨p3, g3, rfl, ro3, k6'⟩ := hu.ex
    have K6 := hidden (show Same WA w6 from Kept.trans (K5.out) k6')
    have RI := hidden (own_low (C := w.heap.size + 3) ro3 (by have := K5.out.size; simp; omega))
    have RK6 := hidden (own_kept RK5.out k6' (fun _ _ h => h))
    have RV6 := hidden (own_kept RV.out k6' (fun _ _ h => h))
    clear hu ro3 k6'
    refine hK.out _ _ (HS.out _ (HW.out _ K6.out)) (fun _ => ?_); clear hK K; (try go_simp)
    refine wpAnyH_take (i := 15) (v := (.agg #[.bool false, .slice p1 LK.length g1, .slice p2 LV.length g2, .slice p3 LI.length g3])) rfl (by kernel_rfl) (by kernel_rfl) (by kernel_rfl) (fun _ _ _ h => h) (Or.inl ⟨by rfl, (by intro w hSw; obtain ⟨t0, t1, t2, t3, t4⟩ := hSw; go_simp; try rfl)⟩) (HS.out _ (HW.out _ K6.out)) ?_; (try go_simp)
    have BZ6 := hidden (blk_kept K6.out (fun h => h) BZ.out)
    have e0 := blk_cell (j := 0) BZ6.out; have e1 := blk_cell (j := 1) BZ6.out; have e2 := blk_cell (j := 2) BZ6.out; have e3 := blk_cell (j := 3) BZ6.out; simp at e0 e1 e2 e3
    have ef := (fun j => blk_free (j := j) BZ6.out)
    refine wpAnyH_ready (rs := [16]) (by kernel_rfl) (by simp) ?_
    refine (AllReadyH.cons rfl (fun K hK => ?_) AllReadyH.nil)
    go_simp
    refine hK.out _ _ (HS.out _ ((HW.out _ K6.out).put4 (g := w.heap.size + 2) rfl _ _ _ _)) (fun _ => ?_); clear hK K; (try go_simp)
    refine wpAnyH_ready (rs := [17]) (by kernel_rfl) (by simp) ?_
    refine (AllReadyH.cons rfl (fun K hK => ?_) AllReadyH.nil)
    go_simp
    refine hK.out _ _ (HS.out _ ((HW.out _ K6.out).put4 (g := w.heap.size + 2) rfl _ _ _ _)) (fun _ => ?_); clear hK K; (try go_simp)
    refine wpAnyH_done (by kernel_rfl) ?_ _
    have kf := kept_fill4 (W := w6) (g := w.heap.size + 2) (.bool false) (.slice p1 LK.length g1) (.slice p2 LV.length g2) (.slice p3 LI.length g3)
    have hf := fill4 BZ6.out (.bool false) (.slice p1 LK.length g1) (.slice p2 LV.length g2) (.slice p3 LI.length g3)
    have kfin := hidden (show Same w _ from (K0.out.trans K6.out).trans' kf (fun i hi hs => by change i = _ at hs; omega))
    have Q1 := hidden (own_low (C := w.heap.size) (own_kept RK6.out kf (fun k hk hs => by have := own_geN RK6.out k hk; change k = _ at hs; omega)) (by omega))
    have Q2 := hidden (own_low (C := w.heap.size) (own_kept RV6.out kf (fun k hk hs => by have := own_geN RV6.out k hk; change k = _ at hs; omega)) (by omega))
    have Q3 := hidden (own_low (C := w.heap.size) (own_kept RI.out kf (fun k hk hs => by have := own_geN RI.out k hk; change k = _ at hs; omega)) (by omega))
    clear kf e0 e1 e2 e3 ef
    generalize ((((w6.setCell ⟨w.heap.size + 2, 0, none⟩ (.bool false)).setCell ⟨w.heap.size + 2, 1, none⟩ (.slice p1 LK.length g1)).setCell ⟨w.heap.size + 2, 2, none⟩ (.slice p2 LV.length g2)).setCell ⟨w.heap.size + 2, 3, none⟩ (.slice p3 LI.length g3)) = WF at *
    have s0 := blk_cell (j := 0) hf; have s1 := blk_cell (j := 1) hf; have s2 := blk_cell (j := 2) hf; have s3 := blk_cell (j := 3) hf; simp at s0 s1 s2 s3
    go_wp2
    refine bodyPost_ret (v := .tuple #[.agg #[.bool false, .slice p1 LK.length g1, .slice p2 LV.length g2, .slice p3 LI.length g3], .int .i64 0]) (by simp [results, Tryd.results29, go_sem, s0, s1, s2, s3]) rfl ⟨_, rfl, ⟨_, rfl, ⟨p1, p2, p3, g1, g2, g3, rfl, Q1.out, Q2.out, Q3.out⟩, kfin.out⟩⟩
end Go.Proofs.YtmkjmdiliaaepaaDoor
/- node: Join of two leaves. (Made by mkn48.py.) -/
namespace Go.Proofs.YtmkjmdiliaaepaaDoor
open Go.RowKit
set_option linter.unusedVariables false
set_option linter.unusedSimpArgs false
set_option maxHeartbeats 2000000 in
set_option maxRecDepth 100000 in
theorem join_leaf (n : Nd) (a1 a2 a3 : Option Addr) (k1 c1 k2 c2 k3 c3 : Nat) (m : Nd) (b1 b2 b3 : Option Addr) (l1 d1 l2 d2 l3 d3 : Nat) (key : ByteArray) (w : World) (r1 : Row w (.slice a1 k1 c1) (TS n.keys)) (r2 : Row w (.slice a2 k2 c2) (TS n.vals)) (r3 : Row w (.slice a3 k3 c3) (IS n.kids)) (s1 : Row w (.slice b1 l1 d1) (TS m.keys)) (s2 : Row w (.slice b2 l2 d2) (TS m.vals)) (s3 : Row w (.slice b3 l3 d3) (IS m.kids)) (hb : n.Bd) (hb' : m.Bd) (hl : n.leaf = true) (hl' : m.leaf = true) (hp : n.part = 0) (hp' : m.part = 0) (hr : rises (n.keys ++ m.keys) = true) (hN1 : (k1 + l1 + 1) * 16 ≤ 140737488355328) (hN2 : (k2 + l2) * 16 ≤ 140737488355328) (hN3 : (k3 + l3) * 8 ≤ 140737488355328) :
    Calls Tryd.prog 29 #[.agg #[.bool n.leaf, .slice a1 k1 c1, .slice a2 k2 c2, .slice a3 k3 c3], .string key, .agg #[.bool m.leaf, .slice b1 l1 d1, .slice b2 l2 d2, .slice b3 l3 d3]] w fun e w' => ∃ u, e = .returned u ∧ JnR ⟨true, n.keys ++ m.keys, n.vals ++ m.vals, n.kids ++ m.kids⟩ w u w' := by
  have HC1 := hidden (fun W (k : Same w W) => checkPart_any n a1 a2 a3 k1 c1 k2 c2 k3 c3 W (r1.same k) (r2.same k) (r3.same k) hb)
  have HC2 := hidden (fun W (k : Same w W) => checkPart_any m b1 b2 b3 l1 d1 l2 d2 l3 d3 W (s1.same k) (s2.same k) (s3.same k) hb')
  rw [hp] at HC1
  rw [hp'] at HC2
  rw [hl] at HC1 ⊢
  rw [hl'] at HC2 ⊢
  have e1 := r1.tl
  have e2 := r2.tl
  have e3 := r3.il
  have f1 := s1.tl
  have f2 := s2.tl
  have f3 := s3.il
  have HCK := hidden (fun W (k : Same w W) (g : Nat) (t : TypeId) (hg : W.heap[g]? = some (.cells #[.slice a1 k1 c1, .slice none 0 0, .slice b1 l1 d1] t (0, 0))) => concat3S n.keys [] m.keys g t a1 none b1 k1 0 l1 c1 0 d1 W hg e1 rfl f1 (r1.same k) (Row.nil _) (s1.same k) (by omega))
  simp only [List.append_nil] at HCK
  have HR := hidden (fun W u c (r : Row W (.slice u (n.keys ++ m.keys).length c) (TS (n.keys ++ m.keys))) => rise_any (n.keys ++ m.keys) u (n.keys ++ m.keys).length c W r (by simp; omega))
  rw [hr] at HR
  have HCV := hidden (fun W (k : Same w W) (g : Nat) (t : TypeId) (hg : W.heap[g]? = some (.cells #[.slice a2 k2 c2, .slice b2 l2 d2] t (0, 0))) => concat2S n.vals m.vals g t a2 b2 k2 l2 c2 d2 W hg e2 f2 (r2.same k) (s2.same k) hN2)
  have HCI := hidden (fun W (k : Same w W) (g : Nat) (t : TypeId) (hg : W.heap[g]? = some (.cells #[.slice a3 k3 c3, .slice b3 l3 d3] t (0, 0))) => concat2I n.kids m.kids g t a3 b3 k3 l3 c3 d3 W hg e3 f3 (r3.same k) (s3.same k) hN3)
  generalize n.keys ++ m.keys = LK at *
  generalize n.vals ++ m.vals = LV at *
  generalize n.kids ++ m.kids = LI at *
  clear r1 r2 r3 s1 s2 s3 hb hb' hl hl' hp hp' hr e1 e2 e3 f1 f2 f3 hN1 hN2 hN3
  have bx := blk_alloc (blk_alloc (blk_new w (.cells #[.bool true, .slice a1 k1 c1, .slice a2 k2 c2, .slice a3 k3 c3] 25)) (.cells #[.bool true, .slice b1 l1 d1, .slice b2 l2 d2, .slice b3 l3 d3] 25)) (.cells #[.bool false, .slice none 0 0, .slice none 0 0, .slice none 0 0] 25)
  have by' := blk_alloc (blk_new (w.alloc (.cells #[.bool true, .slice a1 k1 c1, .slice a2 k2 c2, .slice a3 k3 c3] 25)) (.cells #[.bool true, .slice b1 l1 d1, .slice b2 l2 d2, .slice b3 l3 d3] 25)) (.cells #[.bool false, .slice none 0 0, .slice none 0 0, .slice none 0 0] 25)
  have bz' := blk_new ((w.alloc (.cells #[.bool true, .slice a1 k1 c1, .slice a2 k2 c2, .slice a3 k3 c3] 25)).alloc (.cells #[.bool true, .slice b1 l1 d1, .slice b2 l2 d2, .slice b3 l3 d3] 25)) (.cells #[.bool false, .slice none 0 0, .slice none 0 0, .slice none 0 0] 25)
  rw [show (w.alloc (.cells #[.bool true, .slice a1 k1 c1, .slice a2 k2 c2, .slice a3 k3 c3] 25)).heap.size = w.heap.size + 1 by simp] at by'
  rw [show ((w.alloc (.cells #[.bool true, .slice a1 k1 c1, .slice a2 k2 c2, .slice a3 k3 c3] 25)).alloc (.cells #[.bool true, .slice b1 l1 d1, .slice b2 l2 d2, .slice b3 l3 d3] 25)).heap.size = w.heap.size + 2 by simp] at bz'
  have K0 := hidden (((same_alloc w (.cells #[.bool true, .slice a1 k1 c1, .slice a2 k2 c2, .slice a3 k3 c3] 25)).alloc (.cells #[.bool true, .slice b1 l1 d1, .slice b2 l2 d2, .slice b3 l3 d3] 25)).alloc (.cells #[.bool false, .slice none 0 0, .slice none 0 0, .slice none 0 0] 25))
  have zA : (((w.alloc (.cells #[.bool true, .slice a1 k1 c1, .slice a2 k2 c2, .slice a3 k3 c3] 25)).alloc (.cells #[.bool true, .slice b1 l1 d1, .slice b2 l2 d2, .slice b3 l3 d3] 25)).alloc (.cells #[.bool false, .slice none 0 0, .slice none 0 0, .slice none 0 0] 25)).heap.size = w.heap.size + 3 := by simp
  have BX := hidden bx
  have BY := hidden by'
  have BZ := hidden bz'
  clear bx by' bz'
  go_enter Tryd.func29, Tryd.ntmps29
  go_wp2_with (first
    | (go_at_call 39; refine (HC2.out _ (K0.out.trans K1.out)).mono ?_; rintro e w2 ⟨rfl, q2⟩; have K2 := hidden (K1.out.trans q2); have x0 := blk_cell (j := 0) (blk_kept K2.out (fun h => h) BX.out); have x1 := blk_cell (j := 1) (blk_kept K2.out (fun h => h) BX.out); have x2 := blk_cell (j := 2) (blk_kept K2.out (fun h => h) BX.out); have x3 := blk_cell (j := 3) (blk_kept K2.out (fun h => h) BX.out); simp at x0 x1 x2 x3; have y0 := blk_cell (j := 0) (blk_kept K2.out (fun h => h) BY.out); have y1 := blk_cell (j := 1) (blk_kept K2.out (fun h => h) BY.out); have y2 := blk_cell (j := 2) (blk_kept K2.out (fun h => h) BY.out); have y3 := blk_cell (j := 3) (blk_kept K2.out (fun h => h) BY.out); simp at y0 y1 y2 y3; clear q2)
    | (go_at_call 39; refine (HC1.out _ K0.out).mono ?_; rintro e w1 ⟨rfl, q1⟩; have K1 := hidden q1; have x0 := blk_cell (j := 0) (blk_kept q1 (fun h => h) BX.out); have x1 := blk_cell (j := 1) (blk_kept q1 (fun h => h) BX.out); have x2 := blk_cell (j := 2) (blk_kept q1 (fun h => h) BX.out); have x3 := blk_cell (j := 3) (blk_kept q1 (fun h => h) BX.out); simp at x0 x1 x2 x3; have y0 := blk_cell (j := 0) (blk_kept q1 (fun h => h) BY.out); have y1 := blk_cell (j := 1) (blk_kept q1 (fun h => h) BY.out); have y2 := blk_cell (j := 2) (blk_kept q1 (fun h => h) BY.out); have y3 := blk_cell (j := 3) (blk_kept q1 (fun h => h) BY.out); simp at y0 y1 y2 y3; clear q1)
    | (go_at_call 56; refine (HR.out _ _ _ (Row.own RO1.out)).mono ?_; rintro e w4 ⟨rfl, q4⟩; have K4 := hidden (K3.out.trans q4); have RK := hidden (own_low (C := w.heap.size + 3) (own_kept RO1.out q4 (fun _ _ h => h)) (by have := K2.out.size; simp at this ⊢; omega)); clear q4)
    | (go_at_call 55; refine (HCK.out _ ((K0.out.trans K2.out).alloc _) _ _ (blk_new w2 _)).mono ?_; rintro e w3 ⟨u, rfl, hu⟩; obtain ⟨p1, g1, rfl, ro1, k3'⟩ := hu.ex; have K3 := hidden (Kept.trans (K2.out.alloc _) k3'); have RO1 := hidden ro1; clear hu k3' ro1))
  clear RO1 K1 K2 K3 x0 x1 x2 x3 y0 y1 y2 y3
  generalize (((w.alloc (.cells #[.bool true, .slice a1 k1 c1, .slice a2 k2 c2, .slice a3 k3 c3] 25)).alloc (.cells #[.bool true, .slice b1 l1 d1, .slice b2 l2 d2, .slice b3 l3 d3] 25)).alloc (.cells #[.bool false, .slice none 0 0, .slice none 0 0, .slice none 0 0] 25)) = WA at *
  have hmx : Tryd.prog.follows .mixedOrders = true := by kernel_rfl
  have HS : Hid (∀ W, Kept (fun k => k = w.heap.size + 2) WA W → (fun W : World => W.cell? ⟨w.heap.size, 0, none⟩ = some (.bool true) ∧ W.cell? ⟨w.heap.size, 2, none⟩ = some (.slice a2 k2 c2) ∧ W.cell? ⟨w.heap.size, 3, none⟩ = some (.slice a3 k3 c3) ∧ W.cell? ⟨w.heap.size + 1, 2, none⟩ = some (.slice b2 l2 d2) ∧ W.cell? ⟨w.heap.size + 1, 3, none⟩ = some (.slice b3 l3 d3)) W) := hidden (fun W kk => ⟨(blk_cell (blk_kept kk (fun h => by omega) BX.out)).trans rfl, (blk_cell (blk_kept kk (fun h => by omega) BX.out)).trans rfl, (blk_cell (blk_kept kk (fun h => by omega) BX.out)).trans rfl, (blk_cell (blk_kept kk (fun h => by omega) BY.out)).trans rfl, (blk_cell (blk_kept kk (fun h => by omega) BY.out)).trans rfl⟩)
  have HW : Hid (∀ W, Same WA W → Kept (fun k => k = w.heap.size + 2) WA W) := hidden (fun W k => k.mono (fun i _ h => False.elim h))
  have z4 := K4.out.size
  refine wp_region_held_drew (S := (fun W : World => W.cell? ⟨w.heap.size, 0, none⟩ = some (.bool true) ∧ W.cell? ⟨w.heap.size, 2, none⟩ = some (.slice a2 k2 c2) ∧ W.cell? ⟨w.heap.size, 3, none⟩ = some (.slice a3 k3 c3) ∧ W.cell? ⟨w.heap.size + 1, 2, none⟩ = some (.slice b2 l2 d2) ∧ W.cell? ⟨w.heap.size + 1, 3, none⟩ = some (.slice b3 l3 d3))) hmx (HS.out _ (HW.out _ K4.out.drew)) (fun _ => ?_)
  refine wpAnyH_take (i := 0) (v := (.pointer (some ⟨w.heap.size, 0, none⟩))) rfl (by kernel_rfl) (by kernel_rfl) (by kernel_rfl) (fun _ _ _ h => h) (Or.inl ⟨by rfl, (by intro w hSw; obtain ⟨t0, t1, t2, t3, t4⟩ := hSw; go_simp; try rfl)⟩) (HS.out _ (HW.out _ K4.out.drew)) ?_; (try go_simp)
  refine wpAnyH_take (i := 1) (v := (.bool true)) rfl (by kernel_rfl) (by kernel_rfl) (by kernel_rfl) (fun _ _ _ h => h) (Or.inl ⟨by rfl, (by intro w hSw; obtain ⟨t0, t1, t2, t3, t4⟩ := hSw; go_simp; try rfl)⟩) (HS.out _ (HW.out _ K4.out.drew)) ?_; (try go_simp)
  refine wpAnyH_take (i := 2) (v := (.slice p1 LK.length g1)) rfl (by kernel_rfl) (by kernel_rfl) (by kernel_rfl) (fun _ _ _ h => h) (Or.inl ⟨by rfl, (by intro w hSw; obtain ⟨t0, t1, t2, t3, t4⟩ := hSw; go_simp; try rfl)⟩) (HS.out _ (HW.out _ K4.out.drew)) ?_; (try go_simp)
  refine wpAnyH_take (i := 3) (v := (.pointer (some ⟨w.heap.size, 2, none⟩))) rfl (by kernel_rfl) (by kernel_rfl) (by kernel_rfl) (fun _ _ _ h => h) (Or.inl ⟨by rfl, (by intro w hSw; obtain ⟨t0, t1, t2, t3, t4⟩ := hSw; go_simp; try rfl)⟩) (HS.out _ (HW.out _ K4.out.drew)) ?_; (try go_simp)
  refine wpAnyH_take (i := 4) (v := (.slice a2 k2 c2)) rfl (by kernel_rfl) (by kernel_rfl) (by kernel_rfl) (fun _ _ _ h => h) (Or.inl ⟨by rfl, (by intro w hSw; obtain ⟨t0, t1, t2, t3, t4⟩ := hSw; go_simp; try rfl)⟩) (HS.out _ (HW.out _ K4.out.drew)) ?_; (try go_simp)
  refine wpAnyH_take (i := 5) (v := (.pointer (some ⟨w.heap.size + 1, 2, none⟩))) rfl (by kernel_rfl) (by kernel_rfl) (by kernel_rfl) (fun _ _ _ h => h) (Or.inl ⟨by rfl, (by intro w hSw; obtain ⟨t0, t1, t2, t3, t4⟩ := hSw; go_simp; try rfl)⟩) (HS.out _ (HW.out _ K4.out.drew)) ?_; (try go_simp)
  refine wpAnyH_take (i := 6) (v := (.slice b2 l2 d2)) rfl (by kernel_rfl) (by kernel_rfl) (by kernel_rfl) (fun _ _ _ h => h) (Or.inl ⟨by rfl, (by intro w hSw; obtain ⟨t0, t1, t2, t3, t4⟩ := hSw; go_simp; try rfl)⟩) (HS.out _ (HW.out _ K4.out.drew)) ?_; (try go_simp)
  refine wpAnyH_take (i := 9) (v := (.pointer (some ⟨w.heap.size, 3, none⟩))) rfl (by kernel_rfl) (by kernel_rfl) (by kernel_rfl) (fun _ _ _ h => h) (Or.inl ⟨by rfl, (by intro w hSw; obtain ⟨t0, t1, t2, t3, t4⟩ := hSw; go_simp; try rfl)⟩) (HS.out _ (HW.out _ K4.out.drew)) ?_; (try go_simp)
  refine wpAnyH_take (i := 10) (v := (.slice a3 k3 c3)) rfl (by kernel_rfl) (by kernel_rfl) (by kernel_rfl) (fun _ _ _ h => h) (Or.inl ⟨by rfl, (by intro w hSw; obtain ⟨t0, t1, t2, t3, t4⟩ := hSw; go_simp; try rfl)⟩) (HS.out _ (HW.out _ K4.out.drew)) ?_; (try go_simp)
  refine wpAnyH_take (i := 11) (v := (.pointer (some ⟨w.heap.size + 1, 3, none⟩))) rfl (by kernel_rfl) (by kernel_rfl) (by kernel_rfl) (fun _ _ _ h => h) (Or.inl ⟨by rfl, (by intro w hSw; obtain ⟨t0, t1, t2, t3, t4⟩ := hSw; go_simp; try rfl)⟩) (HS.out _ (HW.out _ K4.out.drew)) ?_; (try go_simp)
  refine wpAnyH_take (i := 12) (v := (.slice b3 l3 d3)) rfl (by kernel_rfl) (by kernel_rfl) (by kernel_rfl) (fun _ _ _ h => h) (Or.inl ⟨by rfl, (by intro w hSw; obtain ⟨t0, t1, t2, t3, t4⟩ := hSw; go_simp; try rfl)⟩) (HS.out _ (HW.out _ K4.out.drew)) ?_; (try go_simp)
  refine wpAnyH_ready (rs := [7, 13]) (by kernel_rfl) (by simp) ?_
  refine (AllReadyH.cons rfl (fun K hK => ?_) (AllReadyH.cons rfl (fun K hK => ?_) AllReadyH.nil))
  · skip
    go_simp
    refine hK.out _ _ (HS.out _ ((HW.out _ K4.out.drew).alloc _)) (fun _ => ?_); clear hK K; (try go_simp)
    refine wpAnyH_ready (rs := [8, 13]) (by kernel_rfl) (by simp) ?_
    refine (AllReadyH.cons rfl (fun K hK => ?_) (AllReadyH.cons rfl (fun K hK => ?_) AllReadyH.nil))
    · skip
      refine step_call rfl 55 #[.slice (some ⟨w4.heap.size, 0, none⟩) 2 2] (fun u W => ClS LV _ u W) (by go_simp; try rfl) (HCV.out _ (K0.out.trans (K4.out.drew.alloc _)) _ _ (blk_new w4.drew (.cells #[.slice a2 k2 c2, .slice b2 l2 d2] 22))) ?_
      rintro u w5 hu
      obtain ⟨p2, g2, rfl, ro2, k5'⟩ := hu.ex
      have K5 := hidden (show Same WA w5 from Kept.trans (K4.out.drew.alloc _) k5')
      have RV := hidden (own_low (C := w.heap.size + 3) ro2 (by simp; omega))
      clear hu ro2
      have RK5 := hidden (own_kept RK.out (Kept.trans ((show Same w4 w4.drew from (Kept.refl _ w4).drew).alloc _) k5') (fun _ _ h => h))
      clear k5'
      refine hK.out _ _ (HS.out _ (HW.out _ K5.out)) (fun _ => ?_); clear hK K; (try go_simp)
      refine wpAnyH_ready (rs := [13]) (by kernel_rfl) (by simp) ?_
      refine (AllReadyH.cons rfl (fun K hK => ?_) AllReadyH.nil)
      go_simp
      refine hK.out _ _ (HS.out _ ((HW.out _ K5.out).alloc _)) (fun _ => ?_); clear hK K; (try go_simp)
      refine wpAnyH_ready (rs := [14]) (by kernel_rfl) (by simp) ?_
      refine (AllReadyH.cons rfl (fun K hK => ?_) AllReadyH.nil)
      refine step_call rfl 57 #[.slice (some ⟨w5.heap.size, 0, none⟩) 2 2] (fun u W => ClI LI _ u W) (by go_simp; try rfl) (HCI.out _ (K0.out.trans (K5.out.alloc _)) _ _ (blk_new w5 (.cells #[.slice a3 k3 c3, .slice b3 l3 d3] 23))) ?_
      rintro u w6 hu
      obtain ⟨p3, g3, rfl, ro3, k6'⟩ := hu.ex
      have K6 := hidden (show Same WA w6 from Kept.trans (K5.out.alloc _) k6')
      have RI := hidden (own_low (C := w.heap.size + 3) ro3 (by have := K5.out.size; simp; omega))
      have RK6 := hidden (own_kept RK5.out (Kept.trans (same_alloc w5 _) k6') (fun _ _ h => h))
      have RV6 := hidden (own_kept RV.out (Kept.trans (same_alloc w5 _) k6') (fun _ _ h => h))
      clear hu ro3 k6'
      refine hK.out _ _ (HS.out _ (HW.out _ K6.out)) (fun _ => ?_); clear hK K; (try go_simp)
      refine wpAnyH_take (i := 15) (v := (.agg #[.bool true, .slice p1 LK.length g1, .slice p2 LV.length g2, .slice p3 LI.length g3])) rfl (by kernel_rfl) (by kernel_rfl) (by kernel_rfl) (fun _ _ _ h => h) (Or.inl ⟨by rfl, (by intro w hSw; obtain ⟨t0, t1, t2, t3, t4⟩ := hSw; go_simp; try rfl)⟩) (HS.out _ (HW.out _ K6.out)) ?_; (try go_simp)
      have BZ6 := hidden (blk_kept K6.out (fun h => h) BZ.out)
      have e0 := blk_cell (j := 0) BZ6.out; have e1 := blk_cell (j := 1) BZ6.out; have e2 := blk_cell (j := 2) BZ6.out; have e3 := blk_cell (j := 3) BZ6.out; simp at e0 e1 e2 e3
      have ef := (fun j => blk_free (j := j) BZ6.out)
      refine wpAnyH_ready (rs := [16]) (by kernel_rfl) (by simp) ?_
      refine (AllReadyH.cons rfl (fun K hK => ?_) AllReadyH.nil)
      go_simp
      refine hK.out _ _ (HS.out _ ((HW.out _ K6.out).put4 (g := w.heap.size + 2) rfl _ _ _ _)) (fun _ => ?_); clear hK K; (try go_simp)
      refine wpAnyH_ready (rs := [17]) (by kernel_rfl) (by simp) ?_
      refine (AllReadyH.cons rfl (fun K hK => ?_) AllReadyH.nil)
      go_simp
      refine hK.out _ _ (HS.out _ ((HW.out _ K6.out).put4 (g := w.heap.size + 2) rfl _ _ _ _)) (fun _ => ?_); clear hK K; (try go_simp)
      refine wpAnyH_done (by kernel_rfl) ?_ _
      have kf := kept_fill4 (W := w6) (g := w.heap.size + 2) (.bool true) (.slice p1 LK.length g1) (.slice p2 LV.length g2) (.slice p3 LI.length g3)
      have hf := fill4 BZ6.out (.bool true) (.slice p1 LK.length g1) (.slice p2 LV.length g2) (.slice p3 LI.length g3)
      have kfin := hidden (show Same w _ from (K0.out.trans K6.out).trans' kf (fun i hi hs => by change i = _ at hs; omega))
      have Q1 := hidden (own_low (C := w.heap.size) (own_kept RK6.out kf (fun k hk hs => by have := own_geN RK6.out k hk; change k = _ at hs; omega)) (by omega))
      have Q2 := hidden (own_low (C := w.heap.size) (own_kept RV6.out kf (fun k hk hs => by have := own_geN RV6.out k hk; change k = _ at hs; omega)) (by omega))
      have Q3 := hidden (own_low (C := w.heap.size) (own_kept RI.out kf (fun k hk hs => by have := own_geN RI.out k hk; change k = _ at hs; omega)) (by omega))
      clear kf e0 e1 e2 e3 ef
      generalize ((((w6.setCell ⟨w.heap.size + 2, 0, none⟩ (.bool true)).setCell ⟨w.heap.size + 2, 1, none⟩ (.slice p1 LK.length g1)).setCell ⟨w.heap.size + 2, 2, none⟩ (.slice p2 LV.length g2)).setCell ⟨w.heap.size + 2, 3, none⟩ (.slice p3 LI.length g3)) = WF at *
      have s0 := blk_cell (j := 0) hf; have s1 := blk_cell (j := 1) hf; have s2 := blk_cell (j := 2) hf; have s3 := blk_cell (j := 3) hf; simp at s0 s1 s2 s3
      go_wp2
      refine bodyPost_ret (v := .tuple #[.agg #[.bool true, .slice p1 LK.length g1, .slice p2 LV.length g2, .slice p3 LI.length g3], .int .i64 0]) (by simp [results, Tryd.results29, go_sem, s0, s1, s2, s3]) rfl ⟨_, rfl, ⟨_, rfl, ⟨p1, p2, p3, g1, g2, g3, rfl, Q1.out, Q2.out, Q3.out⟩, kfin.out⟩⟩
    · skip
      go_simp
      refine hK.out _ _ (HS.out _ (((HW.out _ K4.out.drew).alloc _).alloc _)) (fun _ => ?_); clear hK K; (try go_simp)
      refine wpAnyH_ready (rs := [8]) (by kernel_rfl) (by simp) ?_
      refine (AllReadyH.cons rfl (fun K hK => ?_) AllReadyH.nil)
      have hq := blk_new (w4.drew.alloc (.cells #[.slice a2 k2 c2, .slice b2 l2 d2] 22)) (.cells #[.slice a3 k3 c3, .slice b3 l3 d3] 23)
      rw [show (w4.drew.alloc (.cells #[.slice a2 k2 c2, .slice b2 l2 d2] 22)).heap.size = w4.heap.size + 1 by simp] at hq
      refine step_call rfl 55 #[.slice (some ⟨w4.heap.size, 0, none⟩) 2 2] (fun u W => ClS LV _ u W) (by go_simp; try rfl) (HCV.out _ (K0.out.trans ((K4.out.drew.alloc _).alloc _)) _ _ (blk_alloc (blk_new w4.drew (.cells #[.slice a2 k2 c2, .slice b2 l2 d2] 22)) _)) ?_
      rintro u w5 hu
      obtain ⟨p2, g2, rfl, ro2, k5'⟩ := hu.ex
      have K5 := hidden (show Same WA w5 from Kept.trans ((K4.out.drew.alloc _).alloc _) k5')
      have RV := hidden (own_low (C := w.heap.size + 3) ro2 (by simp; omega))
      clear hu ro2
      have RK5 := hidden (own_kept RK.out (Kept.trans (((show Same w4 w4.drew from (Kept.refl _ w4).drew).alloc _).alloc _) k5') (fun _ _ h => h))
      have HB13 := hidden (blk_kept k5' (fun h => h) hq)
      clear k5' hq
      refine hK.out _ _ (HS.out _ (HW.out _ K5.out)) (fun _ => ?_); clear hK K; (try go_simp)
      refine wpAnyH_ready (rs := [14]) (by kernel_rfl) (by simp) ?_
      refine (AllReadyH.cons rfl (fun K hK => ?_) AllReadyH.nil)
      refine step_call rfl 57 #[.slice (some ⟨w4.heap.size + 1, 0, none⟩) 2 2] (fun u W => ClI LI _ u W) (by go_simp; try rfl) (HCI.out _ (K0.out.trans (K5.out)) _ _ (HB13.out)) ?_
      rintro u w6 hu
      obtain ⟨p3, g3, rfl, ro3, k6'⟩ := hu.ex
      have K6 := hidden (show Same WA w6 from Kept.trans (K5.out) k6')
      have RI := hidden (own_low (C := w.heap.size + 3) ro3 (by have := K5.out.size; simp; omega))
      have RK6 := hidden (own_kept RK5.out k6' (fun _ _ h => h))
      have RV6 := hidden (own_kept RV.out k6' (fun _ _ h => h))
      clear hu ro3 k6'
      refine hK.out _ _ (HS.out _ (HW.out _ K6.out)) (fun _ => ?_); clear hK K; (try go_simp)
      refine wpAnyH_take (i := 15) (v := (.agg #[.bool true, .slice p1 LK.length g1, .slice p2 LV.length g2, .slice p3 LI.length g3])) rfl (by kernel_rfl) (by kernel_rfl) (by kernel_rfl) (fun _ _ _ h => h) (Or.inl ⟨by rfl, (by intro w hSw; obtain ⟨t0, t1, t2, t3, t4⟩ := hSw; go_simp; try rfl)⟩) (HS.out _ (HW.out _ K6.out)) ?_; (try go_simp)
      have BZ6 := hidden (blk_kept K6.out (fun h => h) BZ.out)
      have e0 := blk_cell (j := 0) BZ6.out; have e1 := blk_cell (j := 1) BZ6.out; have e2 := blk_cell (j := 2) BZ6.out; have e3 := blk_cell (j := 3) BZ6.out; simp at e0 e1 e2 e3
      have ef := (fun j => blk_free (j := j) BZ6.out)
      refine wpAnyH_ready (rs := [16]) (by kernel_rfl) (by simp) ?_
      refine (AllReadyH.cons rfl (fun K hK => ?_) AllReadyH.nil)
      go_simp
      refine hK.out _ _ (HS.out _ ((HW.out _ K6.out).put4 (g := w.heap.size + 2) rfl _ _ _ _)) (fun _ => ?_); clear hK K; (try go_simp)
      refine wpAnyH_ready (rs := [17]) (by kernel_rfl) (by simp) ?_
      refine (AllReadyH.cons rfl (fun K hK => ?_) AllReadyH.nil)
      go_simp
      refine hK.out _ _ (HS.out _ ((HW.out _ K6.out).put4 (g := w.heap.size + 2) rfl _ _ _ _)) (fun _ => ?_); clear hK K; (try go_simp)
      refine wpAnyH_done (by kernel_rfl) ?_ _
      have kf := kept_fill4 (W := w6) (g := w.heap.size + 2) (.bool true) (.slice p1 LK.length g1) (.slice p2 LV.length g2) (.slice p3 LI.length g3)
      have hf := fill4 BZ6.out (.bool true) (.slice p1 LK.length g1) (.slice p2 LV.length g2) (.slice p3 LI.length g3)
      have kfin := hidden (show Same w _ from (K0.out.trans K6.out).trans' kf (fun i hi hs => by change i = _ at hs; omega))
      have Q1 := hidden (own_low (C := w.heap.size) (own_kept RK6.out kf (fun k hk hs => by have := own_geN RK6.out k hk; change k = _ at hs; omega)) (by omega))
      have Q2 := hidden (own_low (C := w.heap.size) (own_kept RV6.out kf (fun k hk hs => by have := own_geN RV6.out k hk; change k = _ at hs; omega)) (by omega))
      have Q3 := hidden (own_low (C := w.heap.size) (own_kept RI.out kf (fun k hk hs => by have := own_geN RI.out k hk; change k = _ at hs; omega)) (by omega))
      clear kf e0 e1 e2 e3 ef
      generalize ((((w6.setCell ⟨w.heap.size + 2, 0, none⟩ (.bool true)).setCell ⟨w.heap.size + 2, 1, none⟩ (.slice p1 LK.length g1)).setCell ⟨w.heap.size + 2, 2, none⟩ (.slice p2 LV.length g2)).setCell ⟨w.heap.size + 2, 3, none⟩ (.slice p3 LI.length g3)) = WF at *
      have s0 := blk_cell (j := 0) hf; have s1 := blk_cell (j := 1) hf; have s2 := blk_cell (j := 2) hf; have s3 := blk_cell (j := 3) hf; simp at s0 s1 s2 s3
      go_wp2
      refine bodyPost_ret (v := .tuple #[.agg #[.bool true, .slice p1 LK.length g1, .slice p2 LV.length g2, .slice p3 LI.length g3], .int .i64 0]) (by simp [results, Tryd.results29, go_sem, s0, s1, s2, s3]) rfl ⟨_, rfl, ⟨_, rfl, ⟨p1, p2, p3, g1, g2, g3, rfl, Q1.out, Q2.out, Q3.out⟩, kfin.out⟩⟩
  · skip
    go_simp
    refine hK.out _ _ (HS.out _ ((HW.out _ K4.out.drew).alloc _)) (fun _ => ?_); clear hK K; (try go_simp)
    refine wpAnyH_ready (rs := [7]) (by kernel_rfl) (by simp) ?_
    refine (AllReadyH.cons rfl (fun K hK => ?_) AllReadyH.nil)
    go_simp
    refine hK.out _ _ (HS.out _ (((HW.out _ K4.out.drew).alloc _).alloc _)) (fun _ => ?_); clear hK K; (try go_simp)
    refine wpAnyH_ready (rs := [8]) (by kernel_rfl) (by simp) ?_
    refine (AllReadyH.cons rfl (fun K hK => ?_) AllReadyH.nil)
    have hq := blk_new (w4.drew.alloc (.cells #[.slice a3 k3 c3, .slice b3 l3 d3] 23)) (.cells #[.slice a2 k2 c2, .slice b2 l2 d2] 22)
    rw [show (w4.drew.alloc (.cells #[.slice a3 k3 c3, .slice b3 l3 d3] 23)).heap.size = w4.heap.size + 1 by simp] at hq
    refine step_call rfl 55 #[.slice (some ⟨w4.heap.size + 1, 0, none⟩) 2 2] (fun u W => ClS LV _ u W) (by go_simp; try rfl) (HCV.out _ (K0.out.trans ((K4.out.drew.alloc _).alloc _)) _ _ (hq)) ?_
    rintro u w5 hu
    obtain ⟨p2, g2, rfl, ro2, k5'⟩ := hu.ex
    have K5 := hidden (show Same WA w5 from Kept.trans ((K4.out.drew.alloc _).alloc _) k5')
    have RV := hidden (own_low (C := w.heap.size + 3) ro2 (by simp; omega))
    clear hu ro2
    have RK5 := hidden (own_kept RK.out (Kept.trans (((show Same w4 w4.drew from (Kept.refl _ w4).drew).alloc _).alloc _) k5') (fun _ _ h => h))
    have HB13 := hidden (blk_kept k5' (fun h => h) (blk_alloc (blk_new w4.drew (.cells #[.slice a3 k3 c3, .slice b3 l3 d3] 23)) (.cells #[.slice a2 k2 c2, .slice b2 l2 d2] 22)))
    clear k5' hq
    refine hK.out _ _ (HS.out _ (HW.out _ K5.out)) (fun _ => ?_); clear hK K; (try go_simp)
    refine wpAnyH_ready (rs := [14]) (by kernel_rfl) (by simp) ?_
    refine (AllReadyH.cons rfl (fun K hK => ?_) AllReadyH.nil)
    refine step_call rfl 57 #[.slice (some ⟨w4.heap.size, 0, none⟩) 2 2] (fun u W => ClI LI _ u W) (by go_simp; try rfl) (HCI.out _ (K0.out.trans (K5.out)) _ _ (HB13.out)) ?_
    rintro u w6 hu
    obtain ⟨p3, g3, rfl, ro3, k6'⟩ := hu.ex
    have K6 := hidden (show Same WA w6 from Kept.trans (K5.out) k6')
    have RI := hidden (own_low (C := w.heap.size + 3) ro3 (by have := K5.out.size; simp; omega))
    have RK6 := hidden (own_kept RK5.out k6' (fun _ _ h => h))
    have RV6 := hidden (own_kept RV.out k6' (fun _ _ h => h))
    clear hu ro3 k6'
    refine hK.out _ _ (HS.out _ (HW.out _ K6.out)) (fun _ => ?_); clear hK K; (try go_simp)
    refine wpAnyH_take (i := 15) (v := (.agg #[.bool true, .slice p1 LK.length g1, .slice p2 LV.length g2, .slice p3 LI.length g3])) rfl (by kernel_rfl) (by kernel_rfl) (by kernel_rfl) (fun _ _ _ h => h) (Or.inl ⟨by rfl, (by intro w hSw; obtain ⟨t0, t1, t2, t3, t4⟩ := hSw; go_simp; try rfl)⟩) (HS.out _ (HW.out _ K6.out)) ?_; (try go_simp)
    have BZ6 := hidden (blk_kept K6.out (fun h => h) BZ.out)
    have e0 := blk_cell (j := 0) BZ6.out; have e1 := blk_cell (j := 1) BZ6.out; have e2 := blk_cell (j := 2) BZ6.out; have e3 := blk_cell (j := 3) BZ6.out; simp at e0 e1 e2 e3
    have ef := (fun j => blk_free (j := j) BZ6.out)
    refine wpAnyH_ready (rs := [16]) (by kernel_rfl) (by simp) ?_
    refine (AllReadyH.cons rfl (fun K hK => ?_) AllReadyH.nil)
    go_simp
    refine hK.out _ _ (HS.out _ ((HW.out _ K6.out).put4 (g := w.heap.size + 2) rfl _ _ _ _)) (fun _ => ?_); clear hK K; (try go_simp)
    refine wpAnyH_ready (rs := [17]) (by kernel_rfl) (by simp) ?_
    refine (AllReadyH.cons rfl (fun K hK => ?_) AllReadyH.nil)
    go_simp
    refine hK.out _ _ (HS.out _ ((HW.out _ K6.out).put4 (g := w.heap.size + 2) rfl _ _ _ _)) (fun _ => ?_); clear hK K; (try go_simp)
    refine wpAnyH_done (by kernel_rfl) ?_ _
    have kf := kept_fill4 (W := w6) (g := w.heap.size + 2) (.bool true) (.slice p1 LK.length g1) (.slice p2 LV.length g2) (.slice p3 LI.length g3)
    have hf := fill4 BZ6.out (.bool true) (.slice p1 LK.length g1) (.slice p2 LV.length g2) (.slice p3 LI.length g3)
    have kfin := hidden (show Same w _ from (K0.out.trans K6.out).trans' kf (fun i hi hs => by change i = _ at hs; omega))
    have Q1 := hidden (own_low (C := w.heap.size) (own_kept RK6.out kf (fun k hk hs => by have := own_geN RK6.out k hk; change k = _ at hs; omega)) (by omega))
    have Q2 := hidden (own_low (C := w.heap.size) (own_kept RV6.out kf (fun k hk hs => by have := own_geN RV6.out k hk; change k = _ at hs; omega)) (by omega))
    have Q3 := hidden (own_low (C := w.heap.size) (own_kept RI.out kf (fun k hk hs => by have := own_geN RI.out k hk; change k = _ at hs; omega)) (by omega))
    clear kf e0 e1 e2 e3 ef
    generalize ((((w6.setCell ⟨w.heap.size + 2, 0, none⟩ (.bool true)).setCell ⟨w.heap.size + 2, 1, none⟩ (.slice p1 LK.length g1)).setCell ⟨w.heap.size + 2, 2, none⟩ (.slice p2 LV.length g2)).setCell ⟨w.heap.size + 2, 3, none⟩ (.slice p3 LI.length g3)) = WF at *
    have s0 := blk_cell (j := 0) hf; have s1 := blk_cell (j := 1) hf; have s2 := blk_cell (j := 2) hf; have s3 := blk_cell (j := 3) hf; simp at s0 s1 s2 s3
    go_wp2
    refine bodyPost_ret (v := .tuple #[.agg #[.bool true, .slice p1 LK.length g1, .slice p2 LV.length g2, .slice p3 LI.length g3], .int .i64 0]) (by simp [results, Tryd.results29, go_sem, s0, s1, s2, s3]) rfl ⟨_, rfl, ⟨_, rfl, ⟨p1, p2, p3, g1, g2, g3, rfl, Q1.out, Q2.out, Q3.out⟩, kfin.out⟩⟩
end Go.Proofs.YtmkjmdiliaaepaaDoor
/- node: the halves of a node, pure: they are fine, they rejoin, they fit. -/
namespace Go.Proofs.YtmkjmdiliaaepaaDoor
open Go.RowKit
set_option linter.unusedVariables false
set_option linter.unusedSimpArgs false
theorem rises_tail {a : ByteArray} : ∀ {l : List ByteArray}, rises (a :: l) = true → rises l = true
  | [], _ => rfl
  | b :: l, h => by simp only [rises, Bool.and_eq_true] at h; exact h.2
theorem rises_drop : ∀ {l : List ByteArray} (k : Nat), rises l = true → rises (l.drop k) = true
  | _, 0, h => by simpa using h
  | [], k + 1, _ => by simp [rises]
  | a :: l, k + 1, h => by rw [List.drop_succ_cons]; exact rises_drop k (rises_tail h)
theorem rises_take : ∀ {l : List ByteArray} (k : Nat), rises l = true → rises (l.take k) = true
  | _, 0, _ => by simp [rises]
  | [], k + 1, _ => by simp [rises]
  | [a], k + 1, _ => by simp [rises]
  | a :: b :: l, 1, _ => by simp [rises]
  | a :: b :: l, k + 2, h => by
    simp only [rises, Bool.and_eq_true] at h
    have := rises_take (k + 1) h.2
    rw [List.take_succ_cons] at this
    rw [List.take_succ_cons, List.take_succ_cons]
    simp only [rises, Bool.and_eq_true]
    exact ⟨h.1, this⟩
theorem mem_seg {α : Type} {l : List α} {x : α} {a b : Nat} (h : x ∈ (l.drop a).take b) : x ∈ l := List.mem_of_mem_drop (List.mem_of_mem_take h)
theorem Nd.Fine.sub {n : Nd} (h : n.Fine) (lo hi : Nat) (h1 : lo ≤ hi) (h2 : hi ≤ n.keys.length) : (n.sub lo hi).Fine := by
  have hk : ∀ x ∈ n.keys, 1 ≤ x.size ∧ x.size ≤ 64 := fun x hx => by
    obtain ⟨i, hi, rfl⟩ := List.getElem_of_mem hx
    exact h.k i hi
  have hv : ∀ x ∈ n.vals, x.size ≤ 64 := fun x hx => by
    obtain ⟨i, hi, rfl⟩ := List.getElem_of_mem hx
    exact h.v i hi
  have hkid := h.kid
  rw [List.any_eq_false] at hkid
  unfold Nd.sub
  cases hl : n.leaf
  · obtain ⟨a, b⟩ := h.inner hl
    rw [if_neg (by simp)]
    refine ⟨fun i hi => hk _ (mem_seg (List.getElem_mem hi)), fun i hi => by simp at hi, (fun e => by cases e), fun _ => ⟨rfl, ?_⟩, ?_, rises_take _ (rises_drop _ h.up)⟩
    · simp only [List.length_take, List.length_drop]; omega
    · rw [List.any_eq_false]; exact fun x hx => hkid x (mem_seg hx)
  · obtain ⟨a, b⟩ := h.leaf hl
    rw [if_pos rfl]
    refine ⟨fun i hi => hk _ (mem_seg (List.getElem_mem hi)), fun i hi => hv _ (mem_seg (List.getElem_mem hi)), fun _ => ⟨?_, rfl⟩, (fun e => by cases e), rfl, rises_take _ (rises_drop _ h.up)⟩
    simp only [List.length_take, List.length_drop]; omega
theorem seg_len {α : Type} {l : List α} {a b : Nat} (h : b ≤ l.length) : ((l.drop a).take (b - a)).length = b - a := by
  rw [List.length_take, List.length_drop]; omega
theorem Nd.sub_len {n : Nd} {lo hi : Nat} (h2 : hi ≤ n.keys.length) : (n.sub lo hi).keys.length = hi - lo := by
  unfold Nd.sub
  cases n.leaf
  · exact seg_len h2
  · exact seg_len h2
theorem Nd.sub_leaf (n : Nd) (lo hi : Nat) : (n.sub lo hi).leaf = n.leaf := by
  unfold Nd.sub
  cases hl : n.leaf <;> rfl
theorem seg_all {α : Type} {l : List α} {i k : Nat} (hk : k = l.length) : (l.drop 0).take (i - 0) ++ (l.drop i).take (k - i) = l := by
  subst hk
  rw [List.drop_zero, Nat.sub_zero, List.take_of_length_le (l := l.drop i) (by rw [List.length_drop]; omega), List.take_append_drop]
theorem seg_key {l : List ByteArray} {i k : Nat} (hk : k = l.length) (hi : i < k) : (l.drop 0).take (i - 0) ++ [l.getD i ⟨#[]⟩] ++ (l.drop (i + 1)).take (k - (i + 1)) = l := by
  subst hk
  rw [List.drop_zero, Nat.sub_zero, List.take_of_length_le (l := l.drop (i + 1)) (by rw [List.length_drop]; omega), getD_at hi, List.append_assoc]
  have : [l[i]] ++ l.drop (i + 1) = l.drop i := by rw [List.singleton_append, List.getElem_cons_drop]
  rw [this, List.take_append_drop]
/-- The halves of a leaf give it again. -/
theorem Nd.join_leaf {n : Nd} (h : n.Fine) (hl : n.leaf = true) (i : Nat) : (⟨true, (n.sub 0 i).keys ++ (n.sub i n.keys.length).keys, (n.sub 0 i).vals ++ (n.sub i n.keys.length).vals, (n.sub 0 i).kids ++ (n.sub i n.keys.length).kids⟩ : Nd) = n := by
  obtain ⟨a, b⟩ := h.leaf hl
  unfold Nd.sub
  rw [hl, if_pos rfl, if_pos rfl]
  simp only []
  rw [seg_all rfl, seg_all a.symm]
  cases n
  simp only [List.append_nil] at hl b ⊢
  rw [hl, b]
theorem Nd.join_inner {n : Nd} (h : n.Fine) (hl : n.leaf = false) (i : Nat) (hi : i < n.keys.length) : (⟨false, (n.sub 0 i).keys ++ [n.keys.getD i ⟨#[]⟩] ++ (n.sub (i + 1) n.keys.length).keys, (n.sub 0 i).vals ++ (n.sub (i + 1) n.keys.length).vals, (n.sub 0 i).kids ++ (n.sub (i + 1) n.keys.length).kids⟩ : Nd) = n := by
  obtain ⟨a, b⟩ := h.inner hl
  unfold Nd.sub
  rw [hl, if_neg (by simp), if_neg (by simp)]
  simp only []
  rw [seg_key rfl hi, show i + 1 - 0 = (i + 1) - 0 by rfl, seg_all b.symm]
  cases n
  simp only [List.append_nil] at hl a ⊢
  rw [hl, a]
theorem getD_seg {l : List ByteArray} {a b j : Nat} (hj : j < b - a) : ((l.drop a).take (b - a)).getD j ⟨#[]⟩ = l.getD (a + j) ⟨#[]⟩ := by
  rw [List.getD_eq_getElem?_getD, List.getD_eq_getElem?_getD, List.getElem?_take, if_pos hj, List.getElem?_drop]
theorem Nd.sub_es {n : Nd} {lo hi j : Nat} (hj : j < hi - lo) : (n.sub lo hi).es j = n.es (lo + j) := by
  unfold Nd.es Nd.sub
  cases hl : n.leaf
  · rw [if_neg (by simp)]
    simp only [Bool.false_eq_true, if_false]
    rw [getD_seg hj]
  · rw [if_pos rfl]
    simp only [if_true]
    rw [getD_seg hj, getD_seg hj]
theorem Nd.sub_pre {n : Nd} {lo hi : Nat} : ∀ k, k ≤ hi - lo → (n.sub lo hi).pre k + n.pre lo = n.pre (lo + k)
  | 0, _ => by show 0 + _ = _; rw [Nat.zero_add]; rfl
  | k + 1, h => by
    have h1 := Nd.sub_pre (n := n) (lo := lo) (hi := hi) k (by omega)
    have h2 := Nd.sub_es (n := n) (lo := lo) (hi := hi) (j := k) (by omega)
    show (n.sub lo hi).pre k + (n.sub lo hi).es k + n.pre lo = n.pre (lo + k) + n.es (lo + k)
    omega
theorem sum_takeS (l : List ByteArray) (f : ByteArray → Nat) {i : Nat} (h : i < l.length) : ((l.take (i + 1)).map f).sum = ((l.take i).map f).sum + f (l.getD i ⟨#[]⟩) := by
  rw [getD_at h]; exact sum_step l f h
theorem Nd.pre_leaf {n : Nd} (hl : n.leaf = true) (hv : n.vals.length = n.keys.length) : ∀ k, k ≤ n.keys.length → n.pre k = ((n.keys.take k).map fun x => 2 + x.size).sum + ((n.vals.take k).map fun x => x.size).sum
  | 0, _ => by simp [Nd.pre]
  | k + 1, h => by
    have h1 := Nd.pre_leaf hl hv k (by omega)
    rw [sum_takeS _ _ (by omega), sum_takeS _ _ (by omega)]
    have h2 : n.pre (k + 1) = n.pre k + n.es k := rfl
    have h3 : n.es k = 2 + (n.keys.getD k ⟨#[]⟩).size + (n.vals.getD k ⟨#[]⟩).size := by unfold Nd.es; rw [hl]; rfl
    omega
theorem Nd.pre_inner {n : Nd} (hl : n.leaf = false) : ∀ k, k ≤ n.keys.length → n.pre k = ((n.keys.take k).map fun x => 5 + x.size).sum
  | 0, _ => by simp [Nd.pre]
  | k + 1, h => by
    have h1 := Nd.pre_inner hl k (by omega)
    rw [sum_takeS _ _ (by omega)]
    have h2 : n.pre (k + 1) = n.pre k + n.es k := rfl
    have h3 : n.es k = 5 + (n.keys.getD k ⟨#[]⟩).size := by unfold Nd.es; rw [hl]; rfl
    omega
theorem Nd.pre_all_leaf {n : Nd} (h : n.Fine) (hl : n.leaf = true) : n.pre n.keys.length = (n.keys.map fun x => 2 + x.size).sum + (n.vals.map fun x => x.size).sum := by
  have hv := (h.leaf hl).1
  rw [Nd.pre_leaf hl hv _ (Nat.le_refl _), List.take_of_length_le (Nat.le_refl _), List.take_of_length_le (by omega)]
theorem Nd.pre_all_inner {n : Nd} (h : n.Fine) (hl : n.leaf = false) : n.pre n.keys.length = (n.keys.map fun x => 5 + x.size).sum + (n.vals.map fun x => x.size).sum := by
  have hv := (h.inner hl).1
  rw [Nd.pre_inner hl _ (Nat.le_refl _), List.take_of_length_le (Nat.le_refl _), hv]
  simp
/-- The halves fit where the whole has at most 130 bytes too many. -/
theorem Nd.At.fit {n : Nd} {most i btw : Nat} (h : n.Fine) (hA : n.At most i) (hm : n.keys.length = most + 1 + btw) (hT : 16 + n.pre n.keys.length ≤ 642) :
    16 + n.pre i ≤ 480 ∧ 16 + (n.pre n.keys.length - n.pre (i + btw)) ≤ 480 := by
  have hlo := hA.lo
  have hhi := hA.hi
  obtain ⟨j, rfl⟩ : ∃ j, i = j + 1 := ⟨i - 1, by omega⟩
  have e1 : n.pre (j + 1) = n.pre j + n.es j := rfl
  have e2 := (h.es_le (i := j) (by omega)).2.1
  have mono := n.pre_mono (j + 1) btw
  constructor
  · by_cases hj : j = 0
    · subst hj
      have e3 : n.pre 0 = 0 := rfl
      omega
    · have := hA.less j (by omega) (by omega)
      omega
  · rcases hA.stop with hs | hs
    · have e4 : n.keys.length = (j + 1 + btw) + 1 := by omega
      have e5 : n.pre ((j + 1 + btw) + 1) = n.pre (j + 1 + btw) + n.es (j + 1 + btw) := rfl
      have e6 := (h.es_le (i := j + 1 + btw) (by omega)).2.1
      rw [e4, e5]
      omega
    · omega
end Go.Proofs.YtmkjmdiliaaepaaDoor
/- node: Split of an inner node. (Made by mkn45.py.) -/
namespace Go.Proofs.YtmkjmdiliaaepaaDoor
open Go.RowKit
set_option linter.unusedVariables false
set_option linter.unusedSimpArgs false
set_option maxHeartbeats 2000000 in
set_option maxRecDepth 100000 in
theorem split_inner (n : Nd) (a1 a2 a3 : Option Addr) (k1 c1 k2 c2 k3 c3 : Nat) (i most : Nat) (w : World) (r1 : Row w (.slice a1 k1 c1) (TS n.keys)) (r2 : Row w (.slice a2 k2 c2) (TS n.vals)) (r3 : Row w (.slice a3 k3 c3) (IS n.kids)) (hb : n.Bd) (hb1 : n.keys.length ≤ 8796093022208) (hb2 : n.vals.length ≤ 8796093022208) (hb3 : n.kids.length ≤ 17592186044416) (hl : n.leaf = false) (hc : n.chk = 0) (hm : n.keys.length = most + 2) (hA : n.At most i) :
    Calls Tryd.prog 27 #[.agg #[.bool n.leaf, .slice a1 k1 c1, .slice a2 k2 c2, .slice a3 k3 c3]] w fun e w' => ∃ u, e = .returned u ∧ SpR (n.sub 0 i) (n.keys.getD i ⟨#[]⟩) (n.sub (i + 1) n.keys.length) 0 w u w' := by
  have HCk := hidden (fun W (k : Same w W) => check_any n a1 a2 a3 k1 c1 k2 c2 k3 c3 W (r1.same k) (r2.same k) (r3.same k) hb)
  have hF : n.Fine := fine_part (chk_part hc).1
  have HHf := hidden (fun W (k : Same w W) => half_int n a1 a2 a3 k1 c1 k2 c2 k3 c3 most i W (r1.same k) (r2.same k) (r3.same k) hF (by omega) hb1 hA)
  have hi1 := hA.lo
  have hi2 := hA.hi
  have hik : i < n.keys.length := by omega
  obtain ⟨bk, off, rfl, hck⟩ := r1.text hik
  have e1 := r1.tl
  have e2 := r2.tl
  have e3 := r3.il
  have hlen := (hF.inner hl).2
  have HP1 : Hid (∀ W, Same w W → ∀ x y : Int, x = ((0 : Nat) : Int) → y = ((i : Nat) : Int) → Calls Tryd.prog 54 #[.agg #[.bool false, .slice (some ⟨bk, off, none⟩) k1 c1, .slice a2 k2 c2, .slice a3 k3 c3], .int .i64 x, .int .i64 y] W fun e w' => ∃ u, e = .returned u ∧ PtR (n.sub 0 i) W u w') := hidden (fun W (k : Same w W) x y hx hy => by subst hx; subst hy; have := part_inner n (some ⟨bk, off, none⟩) a2 a3 k1 c1 k2 c2 k3 c3 0 i W (r1.same k) (r2.same k) (r3.same k) hl (by omega) (by omega) (by omega) hb1 hb3; rw [hl] at this; exact this)
  have HP2 : Hid (∀ W, Same w W → ∀ x y : Int, x = (((i + 1) : Nat) : Int) → y = ((k1 : Nat) : Int) → Calls Tryd.prog 54 #[.agg #[.bool false, .slice (some ⟨bk, off, none⟩) k1 c1, .slice a2 k2 c2, .slice a3 k3 c3], .int .i64 x, .int .i64 y] W fun e w' => ∃ u, e = .returned u ∧ PtR (n.sub (i + 1) k1) W u w') := hidden (fun W (k : Same w W) x y hx hy => by subst hx; subst hy; have := part_inner n (some ⟨bk, off, none⟩) a2 a3 k1 c1 k2 c2 k3 c3 (i + 1) k1 W (r1.same k) (r2.same k) (r3.same k) hl (by omega) (by omega) (by omega) hb1 hb3; rw [hl] at this; exact this)
  have hkb : bk < w.heap.size := World.block_lt_of_cell? w _ hck
  have HCK := hidden hck
  rw [getD_at hik]
  rw [e1]
  generalize n.keys[i] = kx at *
  generalize n.sub 0 i = m1 at *
  generalize n.sub (i + 1) k1 = m2 at *
  rw [hc] at HCk
  rw [hl] at HCk HHf ⊢
  have hk4 : (i : Int) < k1 := by omega
  have hk5 : (k1 : Int) ≤ 8796093022208 := by omega
  have hk2 : ¬ ((k1 : Int) - 1 - 1 < 1) := by omega
  have hk3 : ¬ ((k1 : Int) ≤ 2) := by omega
  have hk6 : (k1 : Int) = (most : Int) + 2 := by omega
  have HK6 := hidden hk6
  clear r1 r2 r3 hb hF hA hl hc hlen e1 e2 e3 hb1 hb2 hb3 hm hik hck hk6
  have bx := blk_alloc (blk_alloc (blk_new w (.cells #[.bool false, .slice (some ⟨bk, off, none⟩) k1 c1, .slice a2 k2 c2, .slice a3 k3 c3] 25)) (.cells #[.bool false, .slice none 0 0, .slice none 0 0, .slice none 0 0] 25)) (.cells #[.bool false, .slice none 0 0, .slice none 0 0, .slice none 0 0] 25)
  have by' := blk_alloc (blk_new (w.alloc (.cells #[.bool false, .slice (some ⟨bk, off, none⟩) k1 c1, .slice a2 k2 c2, .slice a3 k3 c3] 25)) (.cells #[.bool false, .slice none 0 0, .slice none 0 0, .slice none 0 0] 25)) (.cells #[.bool false, .slice none 0 0, .slice none 0 0, .slice none 0 0] 25)
  have bz' := blk_new ((w.alloc (.cells #[.bool false, .slice (some ⟨bk, off, none⟩) k1 c1, .slice a2 k2 c2, .slice a3 k3 c3] 25)).alloc (.cells #[.bool false, .slice none 0 0, .slice none 0 0, .slice none 0 0] 25)) (.cells #[.bool false, .slice none 0 0, .slice none 0 0, .slice none 0 0] 25)
  rw [show (w.alloc (.cells #[.bool false, .slice (some ⟨bk, off, none⟩) k1 c1, .slice a2 k2 c2, .slice a3 k3 c3] 25)).heap.size = w.heap.size + 1 by simp] at by'
  rw [show ((w.alloc (.cells #[.bool false, .slice (some ⟨bk, off, none⟩) k1 c1, .slice a2 k2 c2, .slice a3 k3 c3] 25)).alloc (.cells #[.bool false, .slice none 0 0, .slice none 0 0, .slice none 0 0] 25)).heap.size = w.heap.size + 2 by simp] at bz'
  have K0 := hidden (((same_alloc w (.cells #[.bool false, .slice (some ⟨bk, off, none⟩) k1 c1, .slice a2 k2 c2, .slice a3 k3 c3] 25)).alloc (.cells #[.bool false, .slice none 0 0, .slice none 0 0, .slice none 0 0] 25)).alloc (.cells #[.bool false, .slice none 0 0, .slice none 0 0, .slice none 0 0] 25))
  have zA : (((w.alloc (.cells #[.bool false, .slice (some ⟨bk, off, none⟩) k1 c1, .slice a2 k2 c2, .slice a3 k3 c3] 25)).alloc (.cells #[.bool false, .slice none 0 0, .slice none 0 0, .slice none 0 0] 25)).alloc (.cells #[.bool false, .slice none 0 0, .slice none 0 0, .slice none 0 0] 25)).heap.size = w.heap.size + 3 := by simp
  have BX := hidden bx
  have BY := hidden by'
  have BZ := hidden bz'
  clear bx by' bz'
  go_enter Tryd.func27, Tryd.ntmps27
  go_wp2_with (first
    | (go_at_call 13; refine (HCk.out _ K0.out).mono ?_; rintro e w1 ⟨rfl, q1⟩; have BX1 := hidden (blk_kept q1 (fun h => h) BX.out); have BY1 := hidden (blk_kept q1 (fun h => h) BY.out); have BZ1 := hidden (blk_kept q1 (fun h => h) BZ.out); have K1 := hidden q1; have zK1 := q1.size; have x0 := blk_cell (j := 0) BX1.out; have x1 := blk_cell (j := 1) BX1.out; have x2 := blk_cell (j := 2) BX1.out; have x3 := blk_cell (j := 3) BX1.out; simp at x0 x1 x2 x3; have y0 := blk_cell (j := 0) BY1.out; have y1 := blk_cell (j := 1) BY1.out; have y2 := blk_cell (j := 2) BY1.out; have y3 := blk_cell (j := 3) BY1.out; simp at y0 y1 y2 y3; have z0 := blk_cell (j := 0) BZ1.out; have z1 := blk_cell (j := 1) BZ1.out; have z2 := blk_cell (j := 2) BZ1.out; have z3 := blk_cell (j := 3) BZ1.out; simp at z0 z1 z2 z3; have yf := (fun j => blk_free (j := j) BY1.out); have zf := (fun j => blk_free (j := j) BZ1.out); clear q1)
    | (go_at_call 53; refine (HHf.out _ (K0.out.trans K1.out) _ (by have := HK6.out; omega)).mono ?_; rintro e w2 ⟨rfl, q2⟩; have K2 := hidden (K1.out.trans q2); clear q2 x0 x1 x2 x3 y0 y1 y2 y3 z0 z1 z2 z3 yf zf))
  clear BX1 BY1 BZ1
  generalize (((w.alloc (.cells #[.bool false, .slice (some ⟨bk, off, none⟩) k1 c1, .slice a2 k2 c2, .slice a3 k3 c3] 25)).alloc (.cells #[.bool false, .slice none 0 0, .slice none 0 0, .slice none 0 0] 25)).alloc (.cells #[.bool false, .slice none 0 0, .slice none 0 0, .slice none 0 0] 25)) = WA at *
  have hmx : Tryd.prog.follows .mixedOrders = true := by kernel_rfl
  have hck2 := K0.out.cell (fun h => h) HCK.out
  have HS : Hid (∀ W, Kept (fun k => k = w.heap.size + 1 ∨ k = w.heap.size + 2) WA W → (fun W : World => W.cell? ⟨w.heap.size, 0, none⟩ = some (.bool false) ∧ W.cell? ⟨w.heap.size, 1, none⟩ = some (.slice (some ⟨bk, off, none⟩) k1 c1) ∧ W.cell? ⟨w.heap.size, 2, none⟩ = some (.slice a2 k2 c2) ∧ W.cell? ⟨w.heap.size, 3, none⟩ = some (.slice a3 k3 c3) ∧ W.cell? ⟨bk, off + i, none⟩ = some (.string kx)) W) := hidden (fun W kk => ⟨(blk_cell (blk_kept kk (fun h => by omega) BX.out)).trans rfl, (blk_cell (blk_kept kk (fun h => by omega) BX.out)).trans rfl, (blk_cell (blk_kept kk (fun h => by omega) BX.out)).trans rfl, (blk_cell (blk_kept kk (fun h => by omega) BX.out)).trans rfl, kk.cell (fun h => by change bk = _ ∨ bk = _ at h; omega) hck2⟩)
  clear hck2
  have HW : Hid (∀ W, Same WA W → Kept (fun k => k = w.heap.size + 1 ∨ k = w.heap.size + 2) WA W) := hidden (fun W k => k.mono (fun i _ h => False.elim h))
  refine wp_region_held_drew (S := (fun W : World => W.cell? ⟨w.heap.size, 0, none⟩ = some (.bool false) ∧ W.cell? ⟨w.heap.size, 1, none⟩ = some (.slice (some ⟨bk, off, none⟩) k1 c1) ∧ W.cell? ⟨w.heap.size, 2, none⟩ = some (.slice a2 k2 c2) ∧ W.cell? ⟨w.heap.size, 3, none⟩ = some (.slice a3 k3 c3) ∧ W.cell? ⟨bk, off + i, none⟩ = some (.string kx))) hmx (HS.out _ (HW.out _ K2.out.drew)) (fun _ => ?_)
  refine wpAnyH_take (i := 0) (v := (.agg #[.bool false, .slice (some ⟨bk, off, none⟩) k1 c1, .slice a2 k2 c2, .slice a3 k3 c3])) rfl (by kernel_rfl) (by kernel_rfl) (by kernel_rfl) (fun _ _ _ h => h) (Or.inl ⟨by rfl, (by intro w hSw; obtain ⟨t0, t1, t2, t3, t4⟩ := hSw; go_simp; try (first | rfl | (rw [IntKind.wrap_i64]; omega)))⟩) (HS.out _ (HW.out _ K2.out.drew)) ?_; (try go_simp)
  refine wpAnyH_take (i := 1) (v := (.int .i64 i)) rfl (by kernel_rfl) (by kernel_rfl) (by kernel_rfl) (fun _ _ _ h => h) (Or.inl ⟨by rfl, (by intro w hSw; obtain ⟨t0, t1, t2, t3, t4⟩ := hSw; go_simp; try (first | rfl | (rw [IntKind.wrap_i64]; omega)))⟩) (HS.out _ (HW.out _ K2.out.drew)) ?_; (try go_simp)
  refine wpAnyH_take (i := 3) (v := (.pointer (some ⟨w.heap.size, 1, none⟩))) rfl (by kernel_rfl) (by kernel_rfl) (by kernel_rfl) (fun _ _ _ h => h) (Or.inl ⟨by rfl, (by intro w hSw; obtain ⟨t0, t1, t2, t3, t4⟩ := hSw; go_simp; try (first | rfl | (rw [IntKind.wrap_i64]; omega)))⟩) (HS.out _ (HW.out _ K2.out.drew)) ?_; (try go_simp)
  refine wpAnyH_take (i := 4) (v := (.slice (some ⟨bk, off, none⟩) k1 c1)) rfl (by kernel_rfl) (by kernel_rfl) (by kernel_rfl) (fun _ _ _ h => h) (Or.inl ⟨by rfl, (by intro w hSw; obtain ⟨t0, t1, t2, t3, t4⟩ := hSw; go_simp; try (first | rfl | (rw [IntKind.wrap_i64]; omega)))⟩) (HS.out _ (HW.out _ K2.out.drew)) ?_; (try go_simp)
  refine wpAnyH_take (i := 5) (v := (.int .i64 i)) rfl (by kernel_rfl) (by kernel_rfl) (by kernel_rfl) (fun _ _ _ h => h) (Or.inl ⟨by rfl, (by intro w hSw; obtain ⟨t0, t1, t2, t3, t4⟩ := hSw; go_simp; try (first | rfl | (rw [IntKind.wrap_i64]; omega)))⟩) (HS.out _ (HW.out _ K2.out.drew)) ?_; (try go_simp)
  refine wpAnyH_take (i := 6) (v := (.pointer (some ⟨bk, off + i, none⟩))) rfl (by kernel_rfl) (by kernel_rfl) (by kernel_rfl) (fun _ _ _ h => h) (Or.inl ⟨by rfl, (by intro w hSw; obtain ⟨t0, t1, t2, t3, t4⟩ := hSw; go_simp; try (first | rfl | (rw [IntKind.wrap_i64]; omega)))⟩) (HS.out _ (HW.out _ K2.out.drew)) ?_; (try go_simp)
  refine wpAnyH_take (i := 7) (v := (.string kx)) rfl (by kernel_rfl) (by kernel_rfl) (by kernel_rfl) (fun _ _ _ h => h) (Or.inl ⟨by rfl, (by intro w hSw; obtain ⟨t0, t1, t2, t3, t4⟩ := hSw; go_simp; try (first | rfl | (rw [IntKind.wrap_i64]; omega)))⟩) (HS.out _ (HW.out _ K2.out.drew)) ?_; (try go_simp)
  refine wpAnyH_take (i := 8) (v := (.agg #[.bool false, .slice (some ⟨bk, off, none⟩) k1 c1, .slice a2 k2 c2, .slice a3 k3 c3])) rfl (by kernel_rfl) (by kernel_rfl) (by kernel_rfl) (fun _ _ _ h => h) (Or.inl ⟨by rfl, (by intro w hSw; obtain ⟨t0, t1, t2, t3, t4⟩ := hSw; go_simp; try (first | rfl | (rw [IntKind.wrap_i64]; omega)))⟩) (HS.out _ (HW.out _ K2.out.drew)) ?_; (try go_simp)
  refine wpAnyH_take (i := 9) (v := (.int .i64 i)) rfl (by kernel_rfl) (by kernel_rfl) (by kernel_rfl) (fun _ _ _ h => h) (Or.inl ⟨by rfl, (by intro w hSw; obtain ⟨t0, t1, t2, t3, t4⟩ := hSw; go_simp; try (first | rfl | (rw [IntKind.wrap_i64]; omega)))⟩) (HS.out _ (HW.out _ K2.out.drew)) ?_; (try go_simp)
  refine wpAnyH_take (i := 10) (v := (.int .i64 1)) rfl (by kernel_rfl) (by kernel_rfl) (by kernel_rfl) (fun _ _ _ h => h) (Or.inl ⟨by rfl, (by intro w hSw; obtain ⟨t0, t1, t2, t3, t4⟩ := hSw; go_simp; try (first | rfl | (rw [IntKind.wrap_i64]; omega)))⟩) (HS.out _ (HW.out _ K2.out.drew)) ?_; (try go_simp)
  refine wpAnyH_take (i := 11) (v := (.int .i64 ((i : Int) + 1))) rfl (by kernel_rfl) (by kernel_rfl) (by kernel_rfl) (fun _ _ _ h => h) (Or.inl ⟨by rfl, (by intro w hSw; obtain ⟨t0, t1, t2, t3, t4⟩ := hSw; go_simp; try (first | rfl | (rw [IntKind.wrap_i64]; omega)))⟩) (HS.out _ (HW.out _ K2.out.drew)) ?_; (try go_simp)
  refine wpAnyH_take (i := 12) (v := (.pointer (some ⟨w.heap.size, 1, none⟩))) rfl (by kernel_rfl) (by kernel_rfl) (by kernel_rfl) (fun _ _ _ h => h) (Or.inl ⟨by rfl, (by intro w hSw; obtain ⟨t0, t1, t2, t3, t4⟩ := hSw; go_simp; try (first | rfl | (rw [IntKind.wrap_i64]; omega)))⟩) (HS.out _ (HW.out _ K2.out.drew)) ?_; (try go_simp)
  refine wpAnyH_take (i := 13) (v := (.slice (some ⟨bk, off, none⟩) k1 c1)) rfl (by kernel_rfl) (by kernel_rfl) (by kernel_rfl) (fun _ _ _ h => h) (Or.inl ⟨by rfl, (by intro w hSw; obtain ⟨t0, t1, t2, t3, t4⟩ := hSw; go_simp; try (first | rfl | (rw [IntKind.wrap_i64]; omega)))⟩) (HS.out _ (HW.out _ K2.out.drew)) ?_; (try go_simp)
  refine wpAnyH_take (i := 14) (v := (.int .i64 k1)) rfl (by kernel_rfl) (by kernel_rfl) (by kernel_rfl) (fun _ _ _ h => h) (Or.inl ⟨by rfl, (by intro w hSw; obtain ⟨t0, t1, t2, t3, t4⟩ := hSw; go_simp; try (first | rfl | (rw [IntKind.wrap_i64]; omega)))⟩) (HS.out _ (HW.out _ K2.out.drew)) ?_; (try go_simp)
  refine wpAnyH_ready (rs := [2]) (by kernel_rfl) (by simp) ?_
  refine (AllReadyH.cons rfl (fun K hK => ?_) AllReadyH.nil)
  refine step_call rfl 54 #[.agg #[.bool false, .slice (some ⟨bk, off, none⟩) k1 c1, .slice a2 k2 c2, .slice a3 k3 c3], .int .i64 0, .int .i64 i] (fun u W => PtR m1 _ u W) (by go_simp; try rfl) (HP1.out _ (K0.out.trans K2.out.drew) _ _ rfl rfl) ?_
  rintro u w3 hu
  obtain ⟨ho1, k3'⟩ := hu.ex
  obtain ⟨xb, p1, p2, p3, l1, l2, l3, d1, d2, d3, rfl⟩ := ho1.four
  have K3 := hidden (show Same WA w3 from K2.out.drew.trans k3')
  have HO1 := hidden (ho1.low (C := w.heap.size + 3) (by have := K2.out.size; simp; omega))
  clear hu ho1 k3'
  refine hK.out _ _ (HS.out _ (HW.out _ K3.out)) (fun _ => ?_); clear hK K; (try go_simp)
  refine wpAnyH_ready (rs := [15]) (by kernel_rfl) (by simp) ?_
  refine (AllReadyH.cons rfl (fun K hK => ?_) AllReadyH.nil)
  refine step_call rfl 54 #[.agg #[.bool false, .slice (some ⟨bk, off, none⟩) k1 c1, .slice a2 k2 c2, .slice a3 k3 c3], .int .i64 ((i : Int) + 1), .int .i64 k1] (fun u W => PtR m2 _ u W) (by go_simp; try rfl) (HP2.out _ (K0.out.trans K3.out) _ _ (by simp) rfl) ?_
  rintro u w4 hu
  obtain ⟨ho2, k4'⟩ := hu.ex
  obtain ⟨yb, q1, q2, q3, m3, m4, m5, g1, g2, g3, rfl⟩ := ho2.four
  have K4 := hidden (K3.out.trans k4')
  have HO1' := hidden (HO1.out.kept k4' (fun _ _ h => h))
  have HO2 := hidden (ho2.low (C := w.heap.size + 3) (by have := K3.out.size; omega))
  clear hu ho2 k4' HO1
  refine hK.out _ _ (HS.out _ (HW.out _ K4.out)) (fun _ => ?_); clear hK K; (try go_simp)
  have BY4 := hidden (blk_kept K4.out (fun h => h) BY.out)
  have BZ4 := hidden (blk_kept K4.out (fun h => h) BZ.out)
  have e0 := blk_cell (j := 0) BY4.out; have e1 := blk_cell (j := 1) BY4.out; have e2 := blk_cell (j := 2) BY4.out; have e3 := blk_cell (j := 3) BY4.out; simp at e0 e1 e2 e3
  have f0 := blk_cell (j := 0) BZ4.out; have f1 := blk_cell (j := 1) BZ4.out; have f2 := blk_cell (j := 2) BZ4.out; have f3 := blk_cell (j := 3) BZ4.out; simp at f0 f1 f2 f3
  have ef := (fun j => blk_free (j := j) BY4.out)
  have ff := (fun j => blk_free (j := j) BZ4.out)
  refine wpAnyH_ready (rs := [16]) (by kernel_rfl) (by simp) ?_
  refine (AllReadyH.cons rfl (fun K hK => ?_) AllReadyH.nil)
  go_simp
  refine hK.out _ _ (HS.out _ ((HW.out _ K4.out).put4 (g := w.heap.size + 1) (.inl rfl) _ _ _ _)) (fun _ => ?_); clear hK K; (try go_simp)
  refine wpAnyH_ready (rs := [17]) (by kernel_rfl) (by simp) ?_
  refine (AllReadyH.cons rfl (fun K hK => ?_) AllReadyH.nil)
  go_simp
  refine hK.out _ _ (HS.out _ ((HW.out _ K4.out).put4 (g := w.heap.size + 1) (.inl rfl) _ _ _ _)) (fun _ => ?_); clear hK K; (try go_simp)
  refine wpAnyH_ready (rs := [18]) (by kernel_rfl) (by simp) ?_
  refine (AllReadyH.cons rfl (fun K hK => ?_) AllReadyH.nil)
  go_simp
  refine hK.out _ _ (HS.out _ (((HW.out _ K4.out).put4 (g := w.heap.size + 1) (.inl rfl) _ _ _ _).put4 (g := w.heap.size + 2) (.inr rfl) _ _ _ _)) (fun _ => ?_); clear hK K; (try go_simp)
  refine wpAnyH_ready (rs := [19]) (by kernel_rfl) (by simp) ?_
  refine (AllReadyH.cons rfl (fun K hK => ?_) AllReadyH.nil)
  go_simp
  refine hK.out _ _ (HS.out _ (((HW.out _ K4.out).put4 (g := w.heap.size + 1) (.inl rfl) _ _ _ _).put4 (g := w.heap.size + 2) (.inr rfl) _ _ _ _)) (fun _ => ?_); clear hK K; (try go_simp)
  refine wpAnyH_done (by kernel_rfl) ?_ _
  have kf := kept_fill8 (W := w4) (g := w.heap.size + 1) (h := w.heap.size + 2) (.bool xb) (.slice p1 l1 d1) (.slice p2 l2 d2) (.slice p3 l3 d3) (.bool yb) (.slice q1 m3 g1) (.slice q2 m4 g2) (.slice q3 m5 g3)
  have hf := fill8 BY4.out BZ4.out (by omega) (.bool xb) (.slice p1 l1 d1) (.slice p2 l2 d2) (.slice p3 l3 d3) (.bool yb) (.slice q1 m3 g1) (.slice q2 m4 g2) (.slice q3 m5 g3)
  have kfin := hidden (show Same w _ from (K0.out.trans K4.out).trans' kf (fun i hi hs => by omega))
  have R1 := hidden ((HO1'.out.kept kf (fun i hi hs => by omega)).low (C := w.heap.size) (by omega))
  have R2 := hidden ((HO2.out.kept kf (fun i hi hs => by omega)).low (C := w.heap.size) (by omega))
  clear kf e0 e1 e2 e3 f0 f1 f2 f3 ef ff
  generalize ((((((((w4.setCell ⟨w.heap.size + 1, 0, none⟩ (.bool xb)).setCell ⟨w.heap.size + 1, 1, none⟩ (.slice p1 l1 d1)).setCell ⟨w.heap.size + 1, 2, none⟩ (.slice p2 l2 d2)).setCell ⟨w.heap.size + 1, 3, none⟩ (.slice p3 l3 d3)).setCell ⟨w.heap.size + 2, 0, none⟩ (.bool yb)).setCell ⟨w.heap.size + 2, 1, none⟩ (.slice q1 m3 g1)).setCell ⟨w.heap.size + 2, 2, none⟩ (.slice q2 m4 g2)).setCell ⟨w.heap.size + 2, 3, none⟩ (.slice q3 m5 g3)) = WF at *
  have s0 := blk_cell (j := 0) hf.1; have s1 := blk_cell (j := 1) hf.1; have s2 := blk_cell (j := 2) hf.1; have s3 := blk_cell (j := 3) hf.1; simp at s0 s1 s2 s3
  have t0 := blk_cell (j := 0) hf.2; have t1 := blk_cell (j := 1) hf.2; have t2 := blk_cell (j := 2) hf.2; have t3 := blk_cell (j := 3) hf.2; simp at t0 t1 t2 t3
  go_wp2
  refine bodyPost_ret (v := .tuple #[.agg #[.bool xb, .slice p1 l1 d1, .slice p2 l2 d2, .slice p3 l3 d3], .string kx, .agg #[.bool yb, .slice q1 m3 g1, .slice q2 m4 g2, .slice q3 m5 g3], .int .i64 0]) (by simp [results, Tryd.results27, go_sem, s0, s1, s2, s3, t0, t1, t2, t3]) rfl ⟨_, rfl, ⟨_, _, rfl, R1.out, R2.out, kfin.out⟩⟩
end Go.Proofs.YtmkjmdiliaaepaaDoor
/- node: Split of a leaf. (Made by mkn45.py.) -/
namespace Go.Proofs.YtmkjmdiliaaepaaDoor
open Go.RowKit
set_option linter.unusedVariables false
set_option linter.unusedSimpArgs false
set_option maxHeartbeats 2000000 in
set_option maxRecDepth 100000 in
theorem split_leaf (n : Nd) (a1 a2 a3 : Option Addr) (k1 c1 k2 c2 k3 c3 : Nat) (i most : Nat) (w : World) (r1 : Row w (.slice a1 k1 c1) (TS n.keys)) (r2 : Row w (.slice a2 k2 c2) (TS n.vals)) (r3 : Row w (.slice a3 k3 c3) (IS n.kids)) (hb : n.Bd) (hb1 : n.keys.length ≤ 8796093022208) (hb2 : n.vals.length ≤ 8796093022208) (hb3 : n.kids.length ≤ 17592186044416) (hl : n.leaf = true) (hc : n.chk = 0) (hm : n.keys.length = most + 1) (hA : n.At most i) :
    Calls Tryd.prog 27 #[.agg #[.bool n.leaf, .slice a1 k1 c1, .slice a2 k2 c2, .slice a3 k3 c3]] w fun e w' => ∃ u, e = .returned u ∧ SpR (n.sub 0 i) (n.keys.getD i ⟨#[]⟩) (n.sub i n.keys.length) 0 w u w' := by
  have HCk := hidden (fun W (k : Same w W) => check_any n a1 a2 a3 k1 c1 k2 c2 k3 c3 W (r1.same k) (r2.same k) (r3.same k) hb)
  have hF : n.Fine := fine_part (chk_part hc).1
  have HHf := hidden (fun W (k : Same w W) => half_int n a1 a2 a3 k1 c1 k2 c2 k3 c3 most i W (r1.same k) (r2.same k) (r3.same k) hF (by omega) hb1 hA)
  have hi1 := hA.lo
  have hi2 := hA.hi
  have hik : i < n.keys.length := by omega
  obtain ⟨bk, off, rfl, hck⟩ := r1.text hik
  have e1 := r1.tl
  have e2 := r2.tl
  have e3 := r3.il
  have hlen := (hF.leaf hl).1
  have HP1 : Hid (∀ W, Same w W → ∀ x y : Int, x = ((0 : Nat) : Int) → y = ((i : Nat) : Int) → Calls Tryd.prog 54 #[.agg #[.bool true, .slice (some ⟨bk, off, none⟩) k1 c1, .slice a2 k2 c2, .slice a3 k3 c3], .int .i64 x, .int .i64 y] W fun e w' => ∃ u, e = .returned u ∧ PtR (n.sub 0 i) W u w') := hidden (fun W (k : Same w W) x y hx hy => by subst hx; subst hy; have := part_leaf n (some ⟨bk, off, none⟩) a2 a3 k1 c1 k2 c2 k3 c3 0 i W (r1.same k) (r2.same k) (r3.same k) hl (by omega) (by omega) (by omega) hb1 hb2; rw [hl] at this; exact this)
  have HP2 : Hid (∀ W, Same w W → ∀ x y : Int, x = ((i : Nat) : Int) → y = ((k1 : Nat) : Int) → Calls Tryd.prog 54 #[.agg #[.bool true, .slice (some ⟨bk, off, none⟩) k1 c1, .slice a2 k2 c2, .slice a3 k3 c3], .int .i64 x, .int .i64 y] W fun e w' => ∃ u, e = .returned u ∧ PtR (n.sub i k1) W u w') := hidden (fun W (k : Same w W) x y hx hy => by subst hx; subst hy; have := part_leaf n (some ⟨bk, off, none⟩) a2 a3 k1 c1 k2 c2 k3 c3 i k1 W (r1.same k) (r2.same k) (r3.same k) hl (by omega) (by omega) (by omega) hb1 hb2; rw [hl] at this; exact this)
  have hkb : bk < w.heap.size := World.block_lt_of_cell? w _ hck
  have HCK := hidden hck
  rw [getD_at hik]
  rw [e1]
  generalize n.keys[i] = kx at *
  generalize n.sub 0 i = m1 at *
  generalize n.sub i k1 = m2 at *
  rw [hc] at HCk
  rw [hl] at HCk HHf ⊢
  have hk4 : (i : Int) < k1 := by omega
  have hk5 : (k1 : Int) ≤ 8796093022208 := by omega
  have hk2 : ¬ ((k1 : Int) - 1 < 1) := by omega
  have hk3 : ¬ ((k1 : Int) ≤ 1) := by omega
  have hk6 : (k1 : Int) = (most : Int) + 1 := by omega
  have HK6 := hidden hk6
  clear r1 r2 r3 hb hF hA hl hc hlen e1 e2 e3 hb1 hb2 hb3 hm hik hck hk6
  have bx := blk_alloc (blk_alloc (blk_new w (.cells #[.bool true, .slice (some ⟨bk, off, none⟩) k1 c1, .slice a2 k2 c2, .slice a3 k3 c3] 25)) (.cells #[.bool false, .slice none 0 0, .slice none 0 0, .slice none 0 0] 25)) (.cells #[.bool false, .slice none 0 0, .slice none 0 0, .slice none 0 0] 25)
  have by' := blk_alloc (blk_new (w.alloc (.cells #[.bool true, .slice (some ⟨bk, off, none⟩) k1 c1, .slice a2 k2 c2, .slice a3 k3 c3] 25)) (.cells #[.bool false, .slice none 0 0, .slice none 0 0, .slice none 0 0] 25)) (.cells #[.bool false, .slice none 0 0, .slice none 0 0, .slice none 0 0] 25)
  have bz' := blk_new ((w.alloc (.cells #[.bool true, .slice (some ⟨bk, off, none⟩) k1 c1, .slice a2 k2 c2, .slice a3 k3 c3] 25)).alloc (.cells #[.bool false, .slice none 0 0, .slice none 0 0, .slice none 0 0] 25)) (.cells #[.bool false, .slice none 0 0, .slice none 0 0, .slice none 0 0] 25)
  rw [show (w.alloc (.cells #[.bool true, .slice (some ⟨bk, off, none⟩) k1 c1, .slice a2 k2 c2, .slice a3 k3 c3] 25)).heap.size = w.heap.size + 1 by simp] at by'
  rw [show ((w.alloc (.cells #[.bool true, .slice (some ⟨bk, off, none⟩) k1 c1, .slice a2 k2 c2, .slice a3 k3 c3] 25)).alloc (.cells #[.bool false, .slice none 0 0, .slice none 0 0, .slice none 0 0] 25)).heap.size = w.heap.size + 2 by simp] at bz'
  have K0 := hidden (((same_alloc w (.cells #[.bool true, .slice (some ⟨bk, off, none⟩) k1 c1, .slice a2 k2 c2, .slice a3 k3 c3] 25)).alloc (.cells #[.bool false, .slice none 0 0, .slice none 0 0, .slice none 0 0] 25)).alloc (.cells #[.bool false, .slice none 0 0, .slice none 0 0, .slice none 0 0] 25))
  have zA : (((w.alloc (.cells #[.bool true, .slice (some ⟨bk, off, none⟩) k1 c1, .slice a2 k2 c2, .slice a3 k3 c3] 25)).alloc (.cells #[.bool false, .slice none 0 0, .slice none 0 0, .slice none 0 0] 25)).alloc (.cells #[.bool false, .slice none 0 0, .slice none 0 0, .slice none 0 0] 25)).heap.size = w.heap.size + 3 := by simp
  have BX := hidden bx
  have BY := hidden by'
  have BZ := hidden bz'
  clear bx by' bz'
  go_enter Tryd.func27, Tryd.ntmps27
  go_wp2_with (first
    | (go_at_call 13; refine (HCk.out _ K0.out).mono ?_; rintro e w1 ⟨rfl, q1⟩; have BX1 := hidden (blk_kept q1 (fun h => h) BX.out); have BY1 := hidden (blk_kept q1 (fun h => h) BY.out); have BZ1 := hidden (blk_kept q1 (fun h => h) BZ.out); have K1 := hidden q1; have zK1 := q1.size; have x0 := blk_cell (j := 0) BX1.out; have x1 := blk_cell (j := 1) BX1.out; have x2 := blk_cell (j := 2) BX1.out; have x3 := blk_cell (j := 3) BX1.out; simp at x0 x1 x2 x3; have y0 := blk_cell (j := 0) BY1.out; have y1 := blk_cell (j := 1) BY1.out; have y2 := blk_cell (j := 2) BY1.out; have y3 := blk_cell (j := 3) BY1.out; simp at y0 y1 y2 y3; have z0 := blk_cell (j := 0) BZ1.out; have z1 := blk_cell (j := 1) BZ1.out; have z2 := blk_cell (j := 2) BZ1.out; have z3 := blk_cell (j := 3) BZ1.out; simp at z0 z1 z2 z3; have yf := (fun j => blk_free (j := j) BY1.out); have zf := (fun j => blk_free (j := j) BZ1.out); clear q1)
    | (go_at_call 53; refine (HHf.out _ (K0.out.trans K1.out) _ (by have := HK6.out; omega)).mono ?_; rintro e w2 ⟨rfl, q2⟩; have K2 := hidden (K1.out.trans q2); clear q2 x0 x1 x2 x3 y0 y1 y2 y3 z0 z1 z2 z3 yf zf))
  clear BX1 BY1 BZ1
  generalize (((w.alloc (.cells #[.bool true, .slice (some ⟨bk, off, none⟩) k1 c1, .slice a2 k2 c2, .slice a3 k3 c3] 25)).alloc (.cells #[.bool false, .slice none 0 0, .slice none 0 0, .slice none 0 0] 25)).alloc (.cells #[.bool false, .slice none 0 0, .slice none 0 0, .slice none 0 0] 25)) = WA at *
  have hmx : Tryd.prog.follows .mixedOrders = true := by kernel_rfl
  have hck2 := K0.out.cell (fun h => h) HCK.out
  have HS : Hid (∀ W, Kept (fun k => k = w.heap.size + 1 ∨ k = w.heap.size + 2) WA W → (fun W : World => W.cell? ⟨w.heap.size, 0, none⟩ = some (.bool true) ∧ W.cell? ⟨w.heap.size, 1, none⟩ = some (.slice (some ⟨bk, off, none⟩) k1 c1) ∧ W.cell? ⟨w.heap.size, 2, none⟩ = some (.slice a2 k2 c2) ∧ W.cell? ⟨w.heap.size, 3, none⟩ = some (.slice a3 k3 c3) ∧ W.cell? ⟨bk, off + i, none⟩ = some (.string kx)) W) := hidden (fun W kk => ⟨(blk_cell (blk_kept kk (fun h => by omega) BX.out)).trans rfl, (blk_cell (blk_kept kk (fun h => by omega) BX.out)).trans rfl, (blk_cell (blk_kept kk (fun h => by omega) BX.out)).trans rfl, (blk_cell (blk_kept kk (fun h => by omega) BX.out)).trans rfl, kk.cell (fun h => by change bk = _ ∨ bk = _ at h; omega) hck2⟩)
  clear hck2
  have HW : Hid (∀ W, Same WA W → Kept (fun k => k = w.heap.size + 1 ∨ k = w.heap.size + 2) WA W) := hidden (fun W k => k.mono (fun i _ h => False.elim h))
  refine wp_region_held_drew (S := (fun W : World => W.cell? ⟨w.heap.size, 0, none⟩ = some (.bool true) ∧ W.cell? ⟨w.heap.size, 1, none⟩ = some (.slice (some ⟨bk, off, none⟩) k1 c1) ∧ W.cell? ⟨w.heap.size, 2, none⟩ = some (.slice a2 k2 c2) ∧ W.cell? ⟨w.heap.size, 3, none⟩ = some (.slice a3 k3 c3) ∧ W.cell? ⟨bk, off + i, none⟩ = some (.string kx))) hmx (HS.out _ (HW.out _ K2.out.drew)) (fun _ => ?_)
  refine wpAnyH_take (i := 0) (v := (.agg #[.bool true, .slice (some ⟨bk, off, none⟩) k1 c1, .slice a2 k2 c2, .slice a3 k3 c3])) rfl (by kernel_rfl) (by kernel_rfl) (by kernel_rfl) (fun _ _ _ h => h) (Or.inl ⟨by rfl, (by intro w hSw; obtain ⟨t0, t1, t2, t3, t4⟩ := hSw; go_simp; try (first | rfl | (rw [IntKind.wrap_i64]; omega)))⟩) (HS.out _ (HW.out _ K2.out.drew)) ?_; (try go_simp)
  refine wpAnyH_take (i := 1) (v := (.int .i64 i)) rfl (by kernel_rfl) (by kernel_rfl) (by kernel_rfl) (fun _ _ _ h => h) (Or.inl ⟨by rfl, (by intro w hSw; obtain ⟨t0, t1, t2, t3, t4⟩ := hSw; go_simp; try (first | rfl | (rw [IntKind.wrap_i64]; omega)))⟩) (HS.out _ (HW.out _ K2.out.drew)) ?_; (try go_simp)
  refine wpAnyH_take (i := 3) (v := (.pointer (some ⟨w.heap.size, 1, none⟩))) rfl (by kernel_rfl) (by kernel_rfl) (by kernel_rfl) (fun _ _ _ h => h) (Or.inl ⟨by rfl, (by intro w hSw; obtain ⟨t0, t1, t2, t3, t4⟩ := hSw; go_simp; try (first | rfl | (rw [IntKind.wrap_i64]; omega)))⟩) (HS.out _ (HW.out _ K2.out.drew)) ?_; (try go_simp)
  refine wpAnyH_take (i := 4) (v := (.slice (some ⟨bk, off, none⟩) k1 c1)) rfl (by kernel_rfl) (by kernel_rfl) (by kernel_rfl) (fun _ _ _ h => h) (Or.inl ⟨by rfl, (by intro w hSw; obtain ⟨t0, t1, t2, t3, t4⟩ := hSw; go_simp; try (first | rfl | (rw [IntKind.wrap_i64]; omega)))⟩) (HS.out _ (HW.out _ K2.out.drew)) ?_; (try go_simp)
  refine wpAnyH_take (i := 5) (v := (.int .i64 i)) rfl (by kernel_rfl) (by kernel_rfl) (by kernel_rfl) (fun _ _ _ h => h) (Or.inl ⟨by rfl, (by intro w hSw; obtain ⟨t0, t1, t2, t3, t4⟩ := hSw; go_simp; try (first | rfl | (rw [IntKind.wrap_i64]; omega)))⟩) (HS.out _ (HW.out _ K2.out.drew)) ?_; (try go_simp)
  refine wpAnyH_take (i := 6) (v := (.pointer (some ⟨bk, off + i, none⟩))) rfl (by kernel_rfl) (by kernel_rfl) (by kernel_rfl) (fun _ _ _ h => h) (Or.inl ⟨by rfl, (by intro w hSw; obtain ⟨t0, t1, t2, t3, t4⟩ := hSw; go_simp; try (first | rfl | (rw [IntKind.wrap_i64]; omega)))⟩) (HS.out _ (HW.out _ K2.out.drew)) ?_; (try go_simp)
  refine wpAnyH_take (i := 7) (v := (.string kx)) rfl (by kernel_rfl) (by kernel_rfl) (by kernel_rfl) (fun _ _ _ h => h) (Or.inl ⟨by rfl, (by intro w hSw; obtain ⟨t0, t1, t2, t3, t4⟩ := hSw; go_simp; try (first | rfl | (rw [IntKind.wrap_i64]; omega)))⟩) (HS.out _ (HW.out _ K2.out.drew)) ?_; (try go_simp)
  refine wpAnyH_take (i := 8) (v := (.agg #[.bool true, .slice (some ⟨bk, off, none⟩) k1 c1, .slice a2 k2 c2, .slice a3 k3 c3])) rfl (by kernel_rfl) (by kernel_rfl) (by kernel_rfl) (fun _ _ _ h => h) (Or.inl ⟨by rfl, (by intro w hSw; obtain ⟨t0, t1, t2, t3, t4⟩ := hSw; go_simp; try (first | rfl | (rw [IntKind.wrap_i64]; omega)))⟩) (HS.out _ (HW.out _ K2.out.drew)) ?_; (try go_simp)
  refine wpAnyH_take (i := 9) (v := (.int .i64 i)) rfl (by kernel_rfl) (by kernel_rfl) (by kernel_rfl) (fun _ _ _ h => h) (Or.inl ⟨by rfl, (by intro w hSw; obtain ⟨t0, t1, t2, t3, t4⟩ := hSw; go_simp; try (first | rfl | (rw [IntKind.wrap_i64]; omega)))⟩) (HS.out _ (HW.out _ K2.out.drew)) ?_; (try go_simp)
  refine wpAnyH_take (i := 10) (v := (.int .i64 0)) rfl (by kernel_rfl) (by kernel_rfl) (by kernel_rfl) (fun _ _ _ h => h) (Or.inl ⟨by rfl, (by intro w hSw; obtain ⟨t0, t1, t2, t3, t4⟩ := hSw; go_simp; try (first | rfl | (rw [IntKind.wrap_i64]; omega)))⟩) (HS.out _ (HW.out _ K2.out.drew)) ?_; (try go_simp)
  refine wpAnyH_take (i := 11) (v := (.int .i64 (i : Int))) rfl (by kernel_rfl) (by kernel_rfl) (by kernel_rfl) (fun _ _ _ h => h) (Or.inl ⟨by rfl, (by intro w hSw; obtain ⟨t0, t1, t2, t3, t4⟩ := hSw; go_simp; try (first | rfl | (rw [IntKind.wrap_i64]; omega)))⟩) (HS.out _ (HW.out _ K2.out.drew)) ?_; (try go_simp)
  refine wpAnyH_take (i := 12) (v := (.pointer (some ⟨w.heap.size, 1, none⟩))) rfl (by kernel_rfl) (by kernel_rfl) (by kernel_rfl) (fun _ _ _ h => h) (Or.inl ⟨by rfl, (by intro w hSw; obtain ⟨t0, t1, t2, t3, t4⟩ := hSw; go_simp; try (first | rfl | (rw [IntKind.wrap_i64]; omega)))⟩) (HS.out _ (HW.out _ K2.out.drew)) ?_; (try go_simp)
  refine wpAnyH_take (i := 13) (v := (.slice (some ⟨bk, off, none⟩) k1 c1)) rfl (by kernel_rfl) (by kernel_rfl) (by kernel_rfl) (fun _ _ _ h => h) (Or.inl ⟨by rfl, (by intro w hSw; obtain ⟨t0, t1, t2, t3, t4⟩ := hSw; go_simp; try (first | rfl | (rw [IntKind.wrap_i64]; omega)))⟩) (HS.out _ (HW.out _ K2.out.drew)) ?_; (try go_simp)
  refine wpAnyH_take (i := 14) (v := (.int .i64 k1)) rfl (by kernel_rfl) (by kernel_rfl) (by kernel_rfl) (fun _ _ _ h => h) (Or.inl ⟨by rfl, (by intro w hSw; obtain ⟨t0, t1, t2, t3, t4⟩ := hSw; go_simp; try (first | rfl | (rw [IntKind.wrap_i64]; omega)))⟩) (HS.out _ (HW.out _ K2.out.drew)) ?_; (try go_simp)
  refine wpAnyH_ready (rs := [2]) (by kernel_rfl) (by simp) ?_
  refine (AllReadyH.cons rfl (fun K hK => ?_) AllReadyH.nil)
  refine step_call rfl 54 #[.agg #[.bool true, .slice (some ⟨bk, off, none⟩) k1 c1, .slice a2 k2 c2, .slice a3 k3 c3], .int .i64 0, .int .i64 i] (fun u W => PtR m1 _ u W) (by go_simp; try rfl) (HP1.out _ (K0.out.trans K2.out.drew) _ _ rfl rfl) ?_
  rintro u w3 hu
  obtain ⟨ho1, k3'⟩ := hu.ex
  obtain ⟨xb, p1, p2, p3, l1, l2, l3, d1, d2, d3, rfl⟩ := ho1.four
  have K3 := hidden (show Same WA w3 from K2.out.drew.trans k3')
  have HO1 := hidden (ho1.low (C := w.heap.size + 3) (by have := K2.out.size; simp; omega))
  clear hu ho1 k3'
  refine hK.out _ _ (HS.out _ (HW.out _ K3.out)) (fun _ => ?_); clear hK K; (try go_simp)
  refine wpAnyH_ready (rs := [15]) (by kernel_rfl) (by simp) ?_
  refine (AllReadyH.cons rfl (fun K hK => ?_) AllReadyH.nil)
  refine step_call rfl 54 #[.agg #[.bool true, .slice (some ⟨bk, off, none⟩) k1 c1, .slice a2 k2 c2, .slice a3 k3 c3], .int .i64 (i : Int), .int .i64 k1] (fun u W => PtR m2 _ u W) (by go_simp; try rfl) (HP2.out _ (K0.out.trans K3.out) _ _ (by simp) rfl) ?_
  rintro u w4 hu
  obtain ⟨ho2, k4'⟩ := hu.ex
  obtain ⟨yb, q1, q2, q3, m3, m4, m5, g1, g2, g3, rfl⟩ := ho2.four
  have K4 := hidden (K3.out.trans k4')
  have HO1' := hidden (HO1.out.kept k4' (fun _ _ h => h))
  have HO2 := hidden (ho2.low (C := w.heap.size + 3) (by have := K3.out.size; omega))
  clear hu ho2 k4' HO1
  refine hK.out _ _ (HS.out _ (HW.out _ K4.out)) (fun _ => ?_); clear hK K; (try go_simp)
  have BY4 := hidden (blk_kept K4.out (fun h => h) BY.out)
  have BZ4 := hidden (blk_kept K4.out (fun h => h) BZ.out)
  have e0 := blk_cell (j := 0) BY4.out; have e1 := blk_cell (j := 1) BY4.out; have e2 := blk_cell (j := 2) BY4.out; have e3 := blk_cell (j := 3) BY4.out; simp at e0 e1 e2 e3
  have f0 := blk_cell (j := 0) BZ4.out; have f1 := blk_cell (j := 1) BZ4.out; have f2 := blk_cell (j := 2) BZ4.out; have f3 := blk_cell (j := 3) BZ4.out; simp at f0 f1 f2 f3
  have ef := (fun j => blk_free (j := j) BY4.out)
  have ff := (fun j => blk_free (j := j) BZ4.out)
  refine wpAnyH_ready (rs := [16]) (by kernel_rfl) (by simp) ?_
  refine (AllReadyH.cons rfl (fun K hK => ?_) AllReadyH.nil)
  go_simp
  refine hK.out _ _ (HS.out _ ((HW.out _ K4.out).put4 (g := w.heap.size + 1) (.inl rfl) _ _ _ _)) (fun _ => ?_); clear hK K; (try go_simp)
  refine wpAnyH_ready (rs := [17]) (by kernel_rfl) (by simp) ?_
  refine (AllReadyH.cons rfl (fun K hK => ?_) AllReadyH.nil)
  go_simp
  refine hK.out _ _ (HS.out _ ((HW.out _ K4.out).put4 (g := w.heap.size + 1) (.inl rfl) _ _ _ _)) (fun _ => ?_); clear hK K; (try go_simp)
  refine wpAnyH_ready (rs := [18]) (by kernel_rfl) (by simp) ?_
  refine (AllReadyH.cons rfl (fun K hK => ?_) AllReadyH.nil)
  go_simp
  refine hK.out _ _ (HS.out _ (((HW.out _ K4.out).put4 (g := w.heap.size + 1) (.inl rfl) _ _ _ _).put4 (g := w.heap.size + 2) (.inr rfl) _ _ _ _)) (fun _ => ?_); clear hK K; (try go_simp)
  refine wpAnyH_ready (rs := [19]) (by kernel_rfl) (by simp) ?_
  refine (AllReadyH.cons rfl (fun K hK => ?_) AllReadyH.nil)
  go_simp
  refine hK.out _ _ (HS.out _ (((HW.out _ K4.out).put4 (g := w.heap.size + 1) (.inl rfl) _ _ _ _).put4 (g := w.heap.size + 2) (.inr rfl) _ _ _ _)) (fun _ => ?_); clear hK K; (try go_simp)
  refine wpAnyH_done (by kernel_rfl) ?_ _
  have kf := kept_fill8 (W := w4) (g := w.heap.size + 1) (h := w.heap.size + 2) (.bool xb) (.slice p1 l1 d1) (.slice p2 l2 d2) (.slice p3 l3 d3) (.bool yb) (.slice q1 m3 g1) (.slice q2 m4 g2) (.slice q3 m5 g3)
  have hf := fill8 BY4.out BZ4.out (by omega) (.bool xb) (.slice p1 l1 d1) (.slice p2 l2 d2) (.slice p3 l3 d3) (.bool yb) (.slice q1 m3 g1) (.slice q2 m4 g2) (.slice q3 m5 g3)
  have kfin := hidden (show Same w _ from (K0.out.trans K4.out).trans' kf (fun i hi hs => by omega))
  have R1 := hidden ((HO1'.out.kept kf (fun i hi hs => by omega)).low (C := w.heap.size) (by omega))
  have R2 := hidden ((HO2.out.kept kf (fun i hi hs => by omega)).low (C := w.heap.size) (by omega))
  clear kf e0 e1 e2 e3 f0 f1 f2 f3 ef ff
  generalize ((((((((w4.setCell ⟨w.heap.size + 1, 0, none⟩ (.bool xb)).setCell ⟨w.heap.size + 1, 1, none⟩ (.slice p1 l1 d1)).setCell ⟨w.heap.size + 1, 2, none⟩ (.slice p2 l2 d2)).setCell ⟨w.heap.size + 1, 3, none⟩ (.slice p3 l3 d3)).setCell ⟨w.heap.size + 2, 0, none⟩ (.bool yb)).setCell ⟨w.heap.size + 2, 1, none⟩ (.slice q1 m3 g1)).setCell ⟨w.heap.size + 2, 2, none⟩ (.slice q2 m4 g2)).setCell ⟨w.heap.size + 2, 3, none⟩ (.slice q3 m5 g3)) = WF at *
  have s0 := blk_cell (j := 0) hf.1; have s1 := blk_cell (j := 1) hf.1; have s2 := blk_cell (j := 2) hf.1; have s3 := blk_cell (j := 3) hf.1; simp at s0 s1 s2 s3
  have t0 := blk_cell (j := 0) hf.2; have t1 := blk_cell (j := 1) hf.2; have t2 := blk_cell (j := 2) hf.2; have t3 := blk_cell (j := 3) hf.2; simp at t0 t1 t2 t3
  go_wp2
  refine bodyPost_ret (v := .tuple #[.agg #[.bool xb, .slice p1 l1 d1, .slice p2 l2 d2, .slice p3 l3 d3], .string kx, .agg #[.bool yb, .slice q1 m3 g1, .slice q2 m4 g2, .slice q3 m5 g3], .int .i64 0]) (by simp [results, Tryd.results27, go_sem, s0, s1, s2, s3, t0, t1, t2, t3]) rfl ⟨_, rfl, ⟨_, _, rfl, R1.out, R2.out, kfin.out⟩⟩
end Go.Proofs.YtmkjmdiliaaepaaDoor
namespace Go.Proofs.YtmkjmdiliaaepaaDoor
open Go.RowKit
set_option linter.unusedVariables false
set_option linter.unusedSimpArgs false
def Nd.btw (n : Nd) : Nat := if n.leaf then 0 else 1
theorem Nd.btw_leaf {n : Nd} (h : n.leaf = true) : n.btw = 0 := by unfold Nd.btw; rw [h]; rfl
theorem Nd.btw_inner {n : Nd} (h : n.leaf = false) : n.btw = 1 := by unfold Nd.btw; rw [h]; rfl
theorem split_ok (n : Nd) (a1 a2 a3 : Option Addr) (k1 c1 k2 c2 k3 c3 : Nat) (i most : Nat) (w : World) (r1 : Row w (.slice a1 k1 c1) (TS n.keys)) (r2 : Row w (.slice a2 k2 c2) (TS n.vals)) (r3 : Row w (.slice a3 k3 c3) (IS n.kids)) (hb : n.Bd) (hb1 : n.keys.length ≤ 8796093022208) (hb2 : n.vals.length ≤ 8796093022208) (hb3 : n.kids.length ≤ 17592186044416) (hc : n.chk = 0) (hm : n.keys.length = most + 1 + n.btw) (hA : n.At most i) :
    Calls Tryd.prog 27 #[.agg #[.bool n.leaf, .slice a1 k1 c1, .slice a2 k2 c2, .slice a3 k3 c3]] w fun e w' => ∃ u, e = .returned u ∧ SpR (n.sub 0 i) (n.keys.getD i ⟨#[]⟩) (n.sub (i + n.btw) n.keys.length) 0 w u w' := by
  cases hl : n.leaf
  · have h := split_inner n a1 a2 a3 k1 c1 k2 c2 k3 c3 i most w r1 r2 r3 hb hb1 hb2 hb3 hl hc (by rw [Nd.btw_inner hl] at hm; omega) hA
    rw [hl] at h
    rw [Nd.btw_inner hl]
    exact h
  · have h := split_leaf n a1 a2 a3 k1 c1 k2 c2 k3 c3 i most w r1 r2 r3 hb hb1 hb2 hb3 hl hc (by rw [Nd.btw_leaf hl] at hm; omega) hA
    rw [hl] at h
    rw [Nd.btw_leaf hl]
    exact h
theorem split_few (n : Nd) (a1 a2 a3 : Option Addr) (k1 c1 k2 c2 k3 c3 : Nat) (w : World) (r1 : Row w (.slice a1 k1 c1) (TS n.keys)) (r2 : Row w (.slice a2 k2 c2) (TS n.vals)) (r3 : Row w (.slice a3 k3 c3) (IS n.kids)) (hb : n.Bd) (hc : n.chk = 0) (hm : n.keys.length ≤ 1 + n.btw) :
    Calls Tryd.prog 27 #[.agg #[.bool n.leaf, .slice a1 k1 c1, .slice a2 k2 c2, .slice a3 k3 c3]] w fun e w' => ∃ u, e = .returned u ∧ SpR Nd.zero ⟨#[]⟩ Nd.zero 4 w u w' := by
  cases hl : n.leaf
  · have h := split_fewI n a1 a2 a3 k1 c1 k2 c2 k3 c3 w r1 r2 r3 hb hl hc (by rw [Nd.btw_inner hl] at hm; omega)
    rw [hl] at h
    exact h
  · have h := split_fewL n a1 a2 a3 k1 c1 k2 c2 k3 c3 w r1 r2 r3 hb hl hc (by rw [Nd.btw_leaf hl] at hm; omega)
    rw [hl] at h
    exact h
theorem rsplit_few (n : Nd) (a1 a2 a3 : Option Addr) (k1 c1 k2 c2 k3 c3 : Nat) (w : World) (r1 : Row w (.slice a1 k1 c1) (TS n.keys)) (r2 : Row w (.slice a2 k2 c2) (TS n.vals)) (r3 : Row w (.slice a3 k3 c3) (IS n.kids)) (hb : n.Bd) (hc : n.chk = 0) (hm : n.keys.length ≤ 1 + n.btw) :
    Calls Tryd.prog 28 #[.agg #[.bool n.leaf, .slice a1 k1 c1, .slice a2 k2 c2, .slice a3 k3 c3]] w fun e w' => ∃ u, e = .returned u ∧ SpR Nd.zero ⟨#[]⟩ Nd.zero 4 w u w' := by
  cases hl : n.leaf
  · have h := rsplit_fewI n a1 a2 a3 k1 c1 k2 c2 k3 c3 w r1 r2 r3 hb hl hc (by rw [Nd.btw_inner hl] at hm; omega)
    rw [hl] at h
    exact h
  · have h := rsplit_fewL n a1 a2 a3 k1 c1 k2 c2 k3 c3 w r1 r2 r3 hb hl hc (by rw [Nd.btw_leaf hl] at hm; omega)
    rw [hl] at h
    exact h
theorem Nd.sub_bd {n : Nd} (lo hi : Nat) (h1 : n.keys.length ≤ 8796093022208) (h2 : n.vals.length ≤ 8796093022208) (h3 : n.kids.length ≤ 17592186044416) : (n.sub lo hi).Bd ∧ (n.sub lo hi).keys.length ≤ 8796093022208 ∧ (n.sub lo hi).vals.length ≤ 8796093022208 ∧ (n.sub lo hi).kids.length ≤ 17592186044416 := by
  unfold Nd.sub
  cases n.leaf
  · rw [if_neg (by simp)]
    refine ⟨⟨?_, ?_, ?_⟩, ?_, ?_, ?_⟩ <;> simp only [List.length_take, List.length_drop, List.length_nil] <;> omega
  · rw [if_pos rfl]
    refine ⟨⟨?_, ?_, ?_⟩, ?_, ?_, ?_⟩ <;> simp only [List.length_take, List.length_drop, List.length_nil] <;> omega
/-- Join of the halves gives the node. -/
theorem join_ok (n : Nd) (i : Nat) (u1 u2 : Value) (w : World) (hF : n.Fine) (hi : i < n.keys.length) (hi2 : i + n.btw ≤ n.keys.length) (q1 : NdR w u1 (n.sub 0 i)) (q2 : NdR w u2 (n.sub (i + n.btw) n.keys.length)) (h1 : n.keys.length ≤ 8796093021952) (h2 : n.vals.length ≤ 8796093021952) (h3 : n.kids.length ≤ 17592186043904) :
    Calls Tryd.prog 29 #[u1, .string (n.keys.getD i ⟨#[]⟩), u2] w fun e w' => ∃ u, e = .returned u ∧ JnR n w u w' := by
  have b1 := Nd.sub_bd (n := n) 0 i (by omega) (by omega) (by omega)
  have b2 := Nd.sub_bd (n := n) (i + n.btw) n.keys.length (by omega) (by omega) (by omega)
  have f1 := part_fine (hF.sub 0 i (by omega) (by omega))
  have f2 := part_fine (hF.sub (i + n.btw) n.keys.length hi2 (Nat.le_refl _))
  have hup := hF.up
  obtain ⟨a1, a2, a3, c1, c2, c3, rfl, r1, r2, r3⟩ := q1.ex
  obtain ⟨e1, e2, e3, d1, d2, d3, rfl, s1, s2, s3⟩ := q2.ex
  have l1 := Nd.sub_leaf n 0 i
  have l2 := Nd.sub_leaf n (i + n.btw) n.keys.length
  have hk1 : (n.sub 0 i).keys.length + (n.sub (i + n.btw) n.keys.length).keys.length ≤ n.keys.length := by
    rw [Nd.sub_len (by omega), Nd.sub_len (Nat.le_refl _)]; omega
  cases hl : n.leaf
  · rw [hl] at l1 l2
    have hj := Nd.join_inner hF hl i hi
    rw [Nd.btw_inner hl] at *
    have hv : (n.sub 0 i).vals.length + (n.sub (i + 1) n.keys.length).vals.length ≤ n.vals.length := by
      conv => rhs; rw [← hj]
      simp
    have hd : (n.sub 0 i).kids.length + (n.sub (i + 1) n.keys.length).kids.length ≤ n.kids.length := by
      conv => rhs; rw [← hj]
      simp
    have h := join_inner (n.sub 0 i) a1 a2 a3 _ c1 _ c2 _ c3 (n.sub (i + 1) n.keys.length) e1 e2 e3 _ d1 _ d2 _ d3 (n.keys.getD i ⟨#[]⟩) w r1 r2 r3 s1 s2 s3 b1.1 b2.1 l1 l2 f1 f2 (by have := congrArg Nd.keys hj; simp only [] at this; rw [this]; exact hup) (by omega) (by omega) (by omega)
    rw [hj] at h
    exact h
  · rw [hl] at l1 l2
    have hj := Nd.join_leaf hF hl i
    rw [Nd.btw_leaf hl] at *
    simp only [Nat.add_zero] at *
    have hv : (n.sub 0 i).vals.length + (n.sub i n.keys.length).vals.length ≤ n.vals.length := by
      conv => rhs; rw [← hj]
      simp
    have hd : (n.sub 0 i).kids.length + (n.sub i n.keys.length).kids.length ≤ n.kids.length := by
      conv => rhs; rw [← hj]
      simp
    have h := join_leaf (n.sub 0 i) a1 a2 a3 _ c1 _ c2 _ c3 (n.sub i n.keys.length) e1 e2 e3 _ d1 _ d2 _ d3 (n.keys.getD i ⟨#[]⟩) w r1 r2 r3 s1 s2 s3 b1.1 b2.1 l1 l2 f1 f2 (by have := congrArg Nd.keys hj; simp only [] at this; rw [this]; exact hup) (by omega) (by omega) (by omega)
    rw [hj] at h
    exact h
theorem nsize_any (n : Nd) (u : Value) (w : World) (q : NdR w u n) (hF : n.Fine) (hb : n.Bd) (hbd : n.keys.length ≤ 8796093022208) :
    Calls Tryd.prog 15 #[u] w fun e w' => e = .returned (.int .i64 (n.base + n.pre n.keys.length : Nat)) ∧ Same w w' := by
  obtain ⟨a1, a2, a3, c1, c2, c3, rfl, r1, r2, r3⟩ := q.ex
  have hp := hF.pre_le n.keys.length (Nat.le_refl _)
  cases hl : n.leaf
  · have e := Nd.pre_all_inner hF hl
    have h := size_inner n a1 a2 a3 _ c1 _ c2 _ c3 w r1 r2 r3 hl hb (by omega)
    rw [hl] at h
    rw [show n.base + n.pre n.keys.length = 20 + (n.keys.map fun k => 5 + k.size).sum + (n.vals.map fun v => v.size).sum by unfold Nd.base; rw [hl, e]; simp; omega]
    exact h
  · have e := Nd.pre_all_leaf hF hl
    have h := size_leaf n a1 a2 a3 _ c1 _ c2 _ c3 w r1 r2 r3 hl hb (by omega)
    rw [hl] at h
    rw [show n.base + n.pre n.keys.length = 16 + (n.keys.map fun k => 2 + k.size).sum + (n.vals.map fun v => v.size).sum by unfold Nd.base; rw [hl, e]; simp; omega]
    exact h
theorem same_ndr (n : Nd) (u v : Value) (w : World) (q : NdR w u n) (p : NdR w v n) (hb : n.Bd) :
    Calls Tryd.prog 17 #[u, v] w fun e w' => e = .returned (.bool true) ∧ Same w w' := by
  obtain ⟨a1, a2, a3, c1, c2, c3, rfl, r1, r2, r3⟩ := q.ex
  obtain ⟨b1, b2, b3, d1, d2, d3, rfl, s1, s2, s3⟩ := p.ex
  exact same_eq n a1 a2 a3 _ c1 _ c2 _ c3 b1 b2 b3 _ d1 _ d2 _ d3 w r1 r2 r3 s1 s2 s3 hb
end Go.Proofs.YtmkjmdiliaaepaaDoor
