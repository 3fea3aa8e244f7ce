/- node: the document's Split of an inner node. (Made by mkn52.py.) -/
import Derived.Test.YtpjgghalnkfdkaaDoorN52
import Derived.Deep.RegionHeld3
import Derived.Deep.CutRange
namespace Go.Proofs.YtpjgghalnkfdkaaDoor
open Go.RowKit
set_option linter.unusedVariables false
set_option linter.unusedSimpArgs false
set_option maxHeartbeats 8000000 in
set_option maxRecDepth 100000 in
theorem rsplit_inner (n : Nd) (a1 a2 a3 : Option Addr) (k1 c1 k2 c2 k3 c3 : Nat) (i most : Nat) (w : World) (r1 : Row w (.slice a1 k1 c1) (TS n.keys)) (r2 : Row w (.slice a2 k2 c2) (TS n.vals)) (r3 : Row w (.slice a3 k3 c3) (IS n.kids)) (hb : n.Bd) (hb1 : n.keys.length ≤ 8796093022208) (hb2 : n.vals.length ≤ 8796093022208) (hb3 : n.kids.length ≤ 17592186044416) (hl : n.leaf = false) (hc : n.chk = 0) (hm : n.keys.length = most + 2) (hA : n.At most i) :
    Calls Tryd.prog 28 #[.agg #[.bool n.leaf, .slice a1 k1 c1, .slice a2 k2 c2, .slice a3 k3 c3]] w fun e w' => ∃ u, e = .returned u ∧ SpQ (n.sub 0 i) (n.keys.getD i ⟨#[]⟩) (n.sub (i + 1) n.keys.length) w u w' := by
  have HCk := hidden (fun W (k : Same w W) => refCheck_any n a1 a2 a3 k1 c1 k2 c2 k3 c3 W (r1.same k) (r2.same k) (r3.same k) hb)
  have HCp := hidden (fun W (k : Same w W) => copy_cp n a1 a2 a3 k1 c1 k2 c2 k3 c3 W (r1.same k) (r2.same k) (r3.same k) hb1 hb2 hb3)
  have hF : n.Fine := fine_part (chk_part hc).1
  have HE := hidden (fun W (k : Same w W) j hj => refEntry_any n a1 a2 a3 k1 c1 k2 c2 k3 c3 j W (r1.same k) (r2.same k) (r3.same k) hF hj)
  have HP := hidden hF.pre_le
  have hi1 := hA.lo
  have hi2 := hA.hi
  have HAl := hidden hA.less
  have HAs := hidden hA.stop
  have hik : i < n.keys.length := by omega
  obtain ⟨bk, off, rfl, hck⟩ := r1.text hik
  have e1 := r1.tl
  have e2 := r2.tl
  have e3 := r3.il
  have E1 := hidden e1
  have hlen := (hF.inner hl).2
  have hnil := (hF.inner hl).1
  have hk13 : k3 = k1 + 1 := by omega
  obtain ⟨T, hT⟩ : ∃ T, n.pre n.keys.length = T := ⟨_, rfl⟩
  have hTb : T ≤ 130 * k1 := by have := hF.pre_le n.keys.length (Nat.le_refl _); rw [hT, e1] at this; exact this
  rw [hT] at HAl HAs
  have HT := hidden hT
  have hkb : bk < w.heap.size := World.block_lt_of_cell? w _ hck
  have HCK := hidden hck
  rw [getD_at hik]
  generalize n.keys[i] = kx at *
  rw [hc] at HCk
  rw [hl] at HCk HE ⊢
  have HCq : Hid (∀ W, Same w W → Calls Tryd.prog 8 #[.agg #[.bool false, .slice (some ⟨bk, off, none⟩) k1 c1, .slice a2 k2 c2, .slice a3 k3 c3]] W fun e w' => ∃ u, e = .returned u ∧ CpR n k1 k2 k3 W u w') := hidden (fun W k => by have := HCp.out W k; rw [hl] at this; exact this)
  have hk4 : (i : Int) < k1 := by omega
  have hk5 : (k1 : Int) ≤ 8796093022208 := by omega
  have hk2 : ¬ ((k1 : Int) - 1 - 1 < 1) := by omega
  have hk3 : ¬ ((k1 : Int) ≤ 2) := by omega
  have HL := hidden hl
  have HN := hidden hnil
  have HKK := hidden hk13
  have hm6 : (k1 : Int) = (most : Int) + 2 := by omega
  have HM6 := hidden hm6
  clear r1 r2 r3 hb hF hA hl hc hlen hnil e1 e2 e3 hb1 hb2 hb3 hm hik hck hT HCp hm6 hk13
  have bx := blk_alloc (blk_alloc (blk_new w (.cells #[.bool false, .slice (some ⟨bk, off, none⟩) k1 c1, .slice a2 k2 c2, .slice a3 k3 c3] 25)) (.cells #[.bool false, .slice none 0 0, .slice none 0 0, .slice none 0 0] 25)) (.cells #[.bool false, .slice none 0 0, .slice none 0 0, .slice none 0 0] 25)
  have by' := blk_alloc (blk_new (w.alloc (.cells #[.bool false, .slice (some ⟨bk, off, none⟩) k1 c1, .slice a2 k2 c2, .slice a3 k3 c3] 25)) (.cells #[.bool false, .slice none 0 0, .slice none 0 0, .slice none 0 0] 25)) (.cells #[.bool false, .slice none 0 0, .slice none 0 0, .slice none 0 0] 25)
  have bz' := blk_new ((w.alloc (.cells #[.bool false, .slice (some ⟨bk, off, none⟩) k1 c1, .slice a2 k2 c2, .slice a3 k3 c3] 25)).alloc (.cells #[.bool false, .slice none 0 0, .slice none 0 0, .slice none 0 0] 25)) (.cells #[.bool false, .slice none 0 0, .slice none 0 0, .slice none 0 0] 25)
  rw [show (w.alloc (.cells #[.bool false, .slice (some ⟨bk, off, none⟩) k1 c1, .slice a2 k2 c2, .slice a3 k3 c3] 25)).heap.size = w.heap.size + 1 by simp] at by'
  rw [show ((w.alloc (.cells #[.bool false, .slice (some ⟨bk, off, none⟩) k1 c1, .slice a2 k2 c2, .slice a3 k3 c3] 25)).alloc (.cells #[.bool false, .slice none 0 0, .slice none 0 0, .slice none 0 0] 25)).heap.size = w.heap.size + 2 by simp] at bz'
  have K0 := hidden (((same_alloc w (.cells #[.bool false, .slice (some ⟨bk, off, none⟩) k1 c1, .slice a2 k2 c2, .slice a3 k3 c3] 25)).alloc (.cells #[.bool false, .slice none 0 0, .slice none 0 0, .slice none 0 0] 25)).alloc (.cells #[.bool false, .slice none 0 0, .slice none 0 0, .slice none 0 0] 25))
  have zA : (((w.alloc (.cells #[.bool false, .slice (some ⟨bk, off, none⟩) k1 c1, .slice a2 k2 c2, .slice a3 k3 c3] 25)).alloc (.cells #[.bool false, .slice none 0 0, .slice none 0 0, .slice none 0 0] 25)).alloc (.cells #[.bool false, .slice none 0 0, .slice none 0 0, .slice none 0 0] 25)).heap.size = w.heap.size + 3 := by simp
  have BX := hidden bx
  have BY := hidden by'
  have BZ := hidden bz'
  clear bx by' bz'
  go_enter Tryd.func28, Tryd.ntmps28
  go_wp2_with (first
      | (go_at_call 14; refine (HCk.out _ K0.out).mono ?_; rintro e w1 ⟨rfl, q1⟩; have BX1 := hidden (blk_kept q1 (fun h => h) BX.out); have BY1 := hidden (blk_kept q1 (fun h => h) BY.out); have BZ1 := hidden (blk_kept q1 (fun h => h) BZ.out); have K1 := hidden q1; have zK1 := q1.size; have x0 := blk_cell (j := 0) BX1.out; have x1 := blk_cell (j := 1) BX1.out; have x2 := blk_cell (j := 2) BX1.out; have x3 := blk_cell (j := 3) BX1.out; simp at x0 x1 x2 x3; have y0 := blk_cell (j := 0) BY1.out; have y1 := blk_cell (j := 1) BY1.out; have y2 := blk_cell (j := 2) BY1.out; have y3 := blk_cell (j := 3) BY1.out; simp at y0 y1 y2 y3; have z0 := blk_cell (j := 0) BZ1.out; have z1 := blk_cell (j := 1) BZ1.out; have z2 := blk_cell (j := 2) BZ1.out; have z3 := blk_cell (j := 3) BZ1.out; simp at z0 z1 z2 z3; have yf := (fun j => blk_free (j := j) BY1.out); have zf := (fun j => blk_free (j := j) BZ1.out); clear q1))
  clear BX1 BY1 BZ1 x0 x1 x2 x3 y0 y1 y2 y3 z0 z1 z2 z3 yf zf
  generalize (((w.alloc (.cells #[.bool false, .slice (some ⟨bk, off, none⟩) k1 c1, .slice a2 k2 c2, .slice a3 k3 c3] 25)).alloc (.cells #[.bool false, .slice none 0 0, .slice none 0 0, .slice none 0 0] 25)).alloc (.cells #[.bool false, .slice none 0 0, .slice none 0 0, .slice none 0 0] 25)) = WA at *
  have BXW : Hid (∀ W, Same WA W → W.cell? ⟨w.heap.size, 0, none⟩ = some (.bool false) ∧ W.cell? ⟨w.heap.size, 1, none⟩ = some (.slice (some ⟨bk, off, none⟩) k1 c1) ∧ W.cell? ⟨w.heap.size, 2, none⟩ = some (.slice a2 k2 c2) ∧ W.cell? ⟨w.heap.size, 3, none⟩ = some (.slice a3 k3 c3)) := hidden (fun W kk => ⟨(blk_cell (blk_kept kk (fun h => h) BX.out)).trans rfl, (blk_cell (blk_kept kk (fun h => h) BX.out)).trans rfl, (blk_cell (blk_kept kk (fun h => h) BX.out)).trans rfl, (blk_cell (blk_kept kk (fun h => h) BX.out)).trans rfl⟩)
  go_loopw [8, 9] (fun s i wr => ∃ k : Nat, k ≤ k1 ∧ i = .int .i64 k ∧ s = .int .i64 (n.pre k : Nat) ∧ Same WA wr) (fun _ i _ => k1 - (intOf i).toNat)
  case atStart => exact ⟨0, Nat.zero_le _, rfl, rfl, K1.out⟩
  case round =>
    obtain ⟨k, hk, rfl, rfl, hs⟩ := hrel
    have S1 := hidden hs
    obtain ⟨z0, z1, z2, z3⟩ := BXW.out wr hs
    clear hs
    by_cases hlt : k < k1
    · skip
      have hp1 := HP.out k (by rw [E1.out]; omega)
      have hp2 := HP.out (k + 1) (by rw [E1.out]; omega)
      have hps : n.pre (k + 1) = n.pre k + n.es k := rfl
      have HPS := hidden hps
      have hes : n.es k ≤ 130 * (k + 1) := by omega
      clear hps
      go_wp2_with (first
          | (go_at_call 42; refine (HE.out _ (K0.out.trans S1.out) k (by rw [E1.out]; exact hlt)).mono ?_; rintro e w2 ⟨rfl, q2⟩; have S2 := hidden (S1.out.trans q2); clear q2))
      go_roundw
      case rel => exact ⟨k + 1, by omega, by go_num, by rw [HPS.out]; go_num, S2.out⟩
      case measure => simp [intOf]; omega
    · skip
      obtain rfl : k1 = k := by omega
      have hpT : n.pre k1 = T := by have := HT.out; rw [E1.out] at this; exact this
      rw [hpT]
      have hes0 : n.es 0 ≤ 130 := by have := HP.out 1 (by rw [E1.out]; omega); have h2 : n.pre 1 = n.pre 0 + n.es 0 := rfl; have h3 : n.pre 0 = 0 := rfl; omega
      have hpe : n.pre 1 = n.es 0 := by have h2 : n.pre 1 = n.pre 0 + n.es 0 := rfl; have h3 : n.pre 0 = 0 := rfl; omega
      have HPE := hidden hpe
      clear hpT hpe
      go_wp2_with (first
          | (go_at_call 42; refine (HE.out _ (K0.out.trans S1.out) 0 (by rw [E1.out]; omega)).mono ?_; rintro e w2 ⟨rfl, q2⟩; have S2 := hidden (S1.out.trans q2); clear q2))
      clear z0 z1 z2 z3
      go_loopw [10, 11] (fun j s wr => ∃ q : Nat, 1 ≤ q ∧ q ≤ i ∧ j = .int .i64 q ∧ s = .int .i64 (n.pre q : Nat) ∧ Same WA wr) (fun j _ _ => i + 1 - (intOf j).toNat)
      case atStart => exact ⟨1, by omega, hi1, rfl, by rw [HPE.out], S2.out⟩
      case round =>
        obtain ⟨q, hq1, hq2, rfl, rfl, hs⟩ := hrel
        have S3 := hidden hs
        obtain ⟨y0, y1, y2, y3⟩ := BXW.out wr hs
        clear hs
        have hp1 := HP.out q (by rw [E1.out]; omega)
        skip
        by_cases hqi : q < i
        · skip
          have hd := HAl.out q hq1 hqi
          have hp2 := HP.out (q + 1) (by rw [E1.out]; omega)
          have hps : n.pre (q + 1) = n.pre q + n.es q := rfl
          have HPS := hidden hps
          have hes : n.es q ≤ 130 * (q + 1) := by omega
          have hlm : (q : Int) < (k1 : Int) - 1 - 1 := by have := HM6.out; omega
          have hdI : 2 * (n.pre q : Int) < (T : Int) := by omega
          clear hps
          go_wp2_with (first
              | (go_at_call 42; refine (HE.out _ (K0.out.trans S3.out) q (by rw [E1.out]; omega)).mono ?_; rintro e w2 ⟨rfl, q2⟩; have S4 := hidden (S3.out.trans q2); clear q2))
          go_roundw
          case rel => exact ⟨q + 1, by omega, by omega, by go_num, by rw [HPS.out]; go_num, S4.out⟩
          case measure => simp [intOf]; omega
        · skip
          obtain rfl : i = q := by omega
          by_cases hlm : (i : Int) < (k1 : Int) - 1 - 1
          · skip
            have hdI : ¬ (2 * (n.pre i : Int) < (T : Int)) := by
                rcases HAs.out with hs9 | hs9
                · have := HM6.out; omega
                · omega
            clear hq1 hq2 hqi
            go_wp2
            go_cut [12, 13] from 68 to 71 (fun x y wx => Two n false k1 k2 k3 WA x y wx)
            case first =>
              have hmx : Tryd.prog.follows .mixedOrders = true := by kernel_rfl
              have KW := hidden S3.out.drew
              refine wp_region_held_drew (S := (fun W : World => W.cell? ⟨w.heap.size, 0, none⟩ = some (.bool false) ∧ W.cell? ⟨w.heap.size, 1, none⟩ = some (.slice (some ⟨bk, off, none⟩) k1 c1) ∧ W.cell? ⟨w.heap.size, 2, none⟩ = some (.slice a2 k2 c2) ∧ W.cell? ⟨w.heap.size, 3, none⟩ = some (.slice a3 k3 c3))) hmx (BXW.out _ S3.out.drew) (fun _ => ?_)
              refine wpAnyH_take (i := 0) (v := (.agg #[.bool false, .slice (some ⟨bk, off, none⟩) k1 c1, .slice a2 k2 c2, .slice a3 k3 c3])) rfl (by kernel_rfl) (by kernel_rfl) (by kernel_rfl) (fun _ _ _ h => h) (Or.inl ⟨by rfl, (by intro w hSw; obtain ⟨t0, t1, t2, t3⟩ := hSw; go_simp; try rfl)⟩) (BXW.out _ (S3.out.drew)) ?_; (try go_simp)
              refine wpAnyH_take (i := 2) (v := (.agg #[.bool false, .slice (some ⟨bk, off, none⟩) k1 c1, .slice a2 k2 c2, .slice a3 k3 c3])) rfl (by kernel_rfl) (by kernel_rfl) (by kernel_rfl) (fun _ _ _ h => h) (Or.inl ⟨by rfl, (by intro w hSw; obtain ⟨t0, t1, t2, t3⟩ := hSw; go_simp; try rfl)⟩) (BXW.out _ (S3.out.drew)) ?_; (try go_simp)
              generalize wr.drew = V0 at *
              refine wpAnyH_ready (rs := [1, 4, 5]) (by kernel_rfl) (by simp) ?_
              refine (AllReadyH.cons rfl (fun K hK => ?_) (AllReadyH.cons rfl (fun K hK => ?_) (AllReadyH.cons rfl (fun K hK => ?_) AllReadyH.nil)))
              · skip
                refine step_call rfl 8 #[.agg #[.bool false, .slice (some ⟨bk, off, none⟩) k1 c1, .slice a2 k2 c2, .slice a3 k3 c3]] (fun u W => CpR n k1 k2 k3 _ u W) (by go_simp; try rfl) (HCq.out _ (K0.out.trans KW.out)) ?_
                rintro u V1 hu
                obtain ⟨p1, p2, p3, d1, d2, d3, rfl, cp, kk⟩ := hu.ex
                rw [HL.out]
                have H1 := hidden cp
                have KW := hidden (KW.out.trans kk)
                clear hu cp kk
                refine hK.out _ _ (BXW.out _ (KW.out)) (fun _ => ?_); clear hK K; (try go_simp)
                refine wpAnyH_ready (rs := [3, 4, 5]) (by kernel_rfl) (by simp) ?_
                refine (AllReadyH.cons rfl (fun K hK => ?_) (AllReadyH.cons rfl (fun K hK => ?_) (AllReadyH.cons rfl (fun K hK => ?_) AllReadyH.nil)))
                · skip
                  refine step_call rfl 8 #[.agg #[.bool false, .slice (some ⟨bk, off, none⟩) k1 c1, .slice a2 k2 c2, .slice a3 k3 c3]] (fun u W => CpR n k1 k2 k3 _ u W) (by go_simp; try rfl) (HCq.out _ (K0.out.trans KW.out)) ?_
                  rintro u V2 hu
                  obtain ⟨q1, q2, q3, f1, f2, f3, rfl, cp, kk⟩ := hu.ex
                  rw [HL.out]
                  have H3 := hidden cp
                  have H1 := hidden (H1.out.same kk)
                  have KW := hidden (KW.out.trans kk)
                  clear hu cp kk
                  refine hK.out _ _ (BXW.out _ (KW.out)) (fun _ => ?_); clear hK K; (try go_simp)
                  refine wpAnyH_ready (rs := [4, 5]) (by kernel_rfl) (by simp) ?_
                  refine (AllReadyH.cons rfl (fun K hK => ?_) (AllReadyH.cons rfl (fun K hK => ?_) AllReadyH.nil))
                  · skip
                    go_simp
                    refine hK.out _ _ (BXW.out _ (KW.out.alloc _)) (fun _ => ?_); clear hK K; (try go_simp)
                    have G4 := hidden (blk_new V2 (.cells #[.bool false, .slice none 0 0, .slice none 0 0, .slice none 0 0] 25))
                    have KA := same_alloc V2 (.cells #[.bool false, .slice none 0 0, .slice none 0 0, .slice none 0 0] 25)
                    have H1 := hidden (H1.out.same KA)
                    have H3 := hidden (H3.out.same KA)
                    have zg4 := KW.out.size
                    have KW := hidden (KW.out.alloc (.cells #[.bool false, .slice none 0 0, .slice none 0 0, .slice none 0 0] 25))
                    clear KA
                    generalize V2.heap.size = g4 at *
                    generalize V2.alloc (.cells #[.bool false, .slice none 0 0, .slice none 0 0, .slice none 0 0] 25) = V3 at *
                    refine wpAnyH_ready (rs := [5]) (by kernel_rfl) (by simp) ?_
                    refine (AllReadyH.cons rfl (fun K hK => ?_) AllReadyH.nil)
                    · skip
                      go_simp
                      refine hK.out _ _ (BXW.out _ (KW.out.alloc _)) (fun _ => ?_); clear hK K; (try go_simp)
                      have G5 := hidden (blk_new V3 (.cells #[.bool false, .slice none 0 0, .slice none 0 0, .slice none 0 0] 25))
                      have KA := same_alloc V3 (.cells #[.bool false, .slice none 0 0, .slice none 0 0, .slice none 0 0] 25)
                      have H1 := hidden (H1.out.same KA)
                      have H3 := hidden (H3.out.same KA)
                      have lG4 := blk_lt G4.out
                      have G4 := hidden (blk_kept KA (fun h => h) G4.out)
                      have zg5 := KW.out.size
                      have KW := hidden (KW.out.alloc (.cells #[.bool false, .slice none 0 0, .slice none 0 0, .slice none 0 0] 25))
                      clear KA
                      generalize V3.heap.size = g5 at *
                      generalize V3.alloc (.cells #[.bool false, .slice none 0 0, .slice none 0 0, .slice none 0 0] 25) = V4 at *
                      have hne : g4 ≠ g5 := by omega
                      have c40 := blk_cell (j := 0) G4.out; have c41 := blk_cell (j := 1) G4.out; have c42 := blk_cell (j := 2) G4.out; have c43 := blk_cell (j := 3) G4.out; simp at c40 c41 c42 c43
                      have cf4 := (fun j => blk_free (j := j) G4.out)
                      have c50 := blk_cell (j := 0) G5.out; have c51 := blk_cell (j := 1) G5.out; have c52 := blk_cell (j := 2) G5.out; have c53 := blk_cell (j := 3) G5.out; simp at c50 c51 c52 c53
                      have cf5 := (fun j => blk_free (j := j) G5.out)
                      refine wpAnyH_ready (rs := [6]) (by kernel_rfl) (by simp) ?_
                      refine (AllReadyH.cons rfl (fun K hK => ?_) AllReadyH.nil)
                      go_simp
                      refine hK.out _ _ (BXW.out _ (same_fill4 KW.out (g := g4) (by omega) _ _ _ _)) (fun _ => ?_); clear hK K; (try go_simp)
                      refine wpAnyH_ready (rs := [7]) (by kernel_rfl) (by simp) ?_
                      refine (AllReadyH.cons rfl (fun K hK => ?_) AllReadyH.nil)
                      go_simp
                      refine hK.out _ _ (BXW.out _ (same_fill4 (same_fill4 KW.out (g := g4) (by omega) _ _ _ _) (g := g5) (by omega) _ _ _ _)) (fun _ => ?_); clear hK K; (try go_simp)
                      refine wpAnyH_done (by kernel_rfl) ?_ _
                      have kf := kept_fill8 (W := V4) (g := g4) (h := g5) (.bool false) (.slice p1 k1 d1) (.slice p2 k2 d2) (.slice p3 k3 d3) (.bool false) (.slice q1 k1 f1) (.slice q2 k2 f2) (.slice q3 k3 f3)
                      have hf := fill8 G4.out G5.out hne (.bool false) (.slice p1 k1 d1) (.slice p2 k2 d2) (.slice p3 k3 d3) (.bool false) (.slice q1 k1 f1) (.slice q2 k2 f2) (.slice q3 k3 f3)
                      have hT2 := hidden (show Two n false k1 k2 k3 WA (.pointer (some ⟨g4, 0, none⟩)) (.pointer (some ⟨g5, 0, none⟩)) _ from ⟨g4, g5, p1, p2, p3, d1, d2, d3, q1, q2, q3, f1, f2, f3, rfl, rfl, by omega, by omega, hf.1, hf.2, H1.out.kept kf G4.out G5.out, H3.out.kept kf G4.out G5.out, KW.out.trans' kf (fun i hi hs => by omega)⟩)
                      clear kf hf c40 c41 c42 c43 c50 c51 c52 c53 cf4 cf5
                      generalize ((((((((V4.setCell ⟨g4, 0, none⟩ (.bool false)).setCell ⟨g4, 1, none⟩ (.slice p1 k1 d1)).setCell ⟨g4, 2, none⟩ (.slice p2 k2 d2)).setCell ⟨g4, 3, none⟩ (.slice p3 k3 d3)).setCell ⟨g5, 0, none⟩ (.bool false)).setCell ⟨g5, 1, none⟩ (.slice q1 k1 f1)).setCell ⟨g5, 2, none⟩ (.slice q2 k2 f2)).setCell ⟨g5, 3, none⟩ (.slice q3 k3 f3)) = WX at *
                      go_wp2_with fail
                      go_meet
                      case rel => exact hT2.out
                  · skip
                    go_simp
                    refine hK.out _ _ (BXW.out _ (KW.out.alloc _)) (fun _ => ?_); clear hK K; (try go_simp)
                    have G5 := hidden (blk_new V2 (.cells #[.bool false, .slice none 0 0, .slice none 0 0, .slice none 0 0] 25))
                    have KA := same_alloc V2 (.cells #[.bool false, .slice none 0 0, .slice none 0 0, .slice none 0 0] 25)
                    have H1 := hidden (H1.out.same KA)
                    have H3 := hidden (H3.out.same KA)
                    have zg5 := KW.out.size
                    have KW := hidden (KW.out.alloc (.cells #[.bool false, .slice none 0 0, .slice none 0 0, .slice none 0 0] 25))
                    clear KA
                    generalize V2.heap.size = g5 at *
                    generalize V2.alloc (.cells #[.bool false, .slice none 0 0, .slice none 0 0, .slice none 0 0] 25) = V3 at *
                    refine wpAnyH_ready (rs := [4]) (by kernel_rfl) (by simp) ?_
                    refine (AllReadyH.cons rfl (fun K hK => ?_) AllReadyH.nil)
                    · skip
                      go_simp
                      refine hK.out _ _ (BXW.out _ (KW.out.alloc _)) (fun _ => ?_); clear hK K; (try go_simp)
                      have G4 := hidden (blk_new V3 (.cells #[.bool false, .slice none 0 0, .slice none 0 0, .slice none 0 0] 25))
                      have KA := same_alloc V3 (.cells #[.bool false, .slice none 0 0, .slice none 0 0, .slice none 0 0] 25)
                      have H1 := hidden (H1.out.same KA)
                      have H3 := hidden (H3.out.same KA)
                      have lG5 := blk_lt G5.out
                      have G5 := hidden (blk_kept KA (fun h => h) G5.out)
                      have zg4 := KW.out.size
                      have KW := hidden (KW.out.alloc (.cells #[.bool false, .slice none 0 0, .slice none 0 0, .slice none 0 0] 25))
                      clear KA
                      generalize V3.heap.size = g4 at *
                      generalize V3.alloc (.cells #[.bool false, .slice none 0 0, .slice none 0 0, .slice none 0 0] 25) = V4 at *
                      have hne : g4 ≠ g5 := by omega
                      have c40 := blk_cell (j := 0) G4.out; have c41 := blk_cell (j := 1) G4.out; have c42 := blk_cell (j := 2) G4.out; have c43 := blk_cell (j := 3) G4.out; simp at c40 c41 c42 c43
                      have cf4 := (fun j => blk_free (j := j) G4.out)
                      have c50 := blk_cell (j := 0) G5.out; have c51 := blk_cell (j := 1) G5.out; have c52 := blk_cell (j := 2) G5.out; have c53 := blk_cell (j := 3) G5.out; simp at c50 c51 c52 c53
                      have cf5 := (fun j => blk_free (j := j) G5.out)
                      refine wpAnyH_ready (rs := [6]) (by kernel_rfl) (by simp) ?_
                      refine (AllReadyH.cons rfl (fun K hK => ?_) AllReadyH.nil)
                      go_simp
                      refine hK.out _ _ (BXW.out _ (same_fill4 KW.out (g := g4) (by omega) _ _ _ _)) (fun _ => ?_); clear hK K; (try go_simp)
                      refine wpAnyH_ready (rs := [7]) (by kernel_rfl) (by simp) ?_
                      refine (AllReadyH.cons rfl (fun K hK => ?_) AllReadyH.nil)
                      go_simp
                      refine hK.out _ _ (BXW.out _ (same_fill4 (same_fill4 KW.out (g := g4) (by omega) _ _ _ _) (g := g5) (by omega) _ _ _ _)) (fun _ => ?_); clear hK K; (try go_simp)
                      refine wpAnyH_done (by kernel_rfl) ?_ _
                      have kf := kept_fill8 (W := V4) (g := g4) (h := g5) (.bool false) (.slice p1 k1 d1) (.slice p2 k2 d2) (.slice p3 k3 d3) (.bool false) (.slice q1 k1 f1) (.slice q2 k2 f2) (.slice q3 k3 f3)
                      have hf := fill8 G4.out G5.out hne (.bool false) (.slice p1 k1 d1) (.slice p2 k2 d2) (.slice p3 k3 d3) (.bool false) (.slice q1 k1 f1) (.slice q2 k2 f2) (.slice q3 k3 f3)
                      have hT2 := hidden (show Two n false k1 k2 k3 WA (.pointer (some ⟨g4, 0, none⟩)) (.pointer (some ⟨g5, 0, none⟩)) _ from ⟨g4, g5, p1, p2, p3, d1, d2, d3, q1, q2, q3, f1, f2, f3, rfl, rfl, by omega, by omega, hf.1, hf.2, H1.out.kept kf G4.out G5.out, H3.out.kept kf G4.out G5.out, KW.out.trans' kf (fun i hi hs => by omega)⟩)
                      clear kf hf c40 c41 c42 c43 c50 c51 c52 c53 cf4 cf5
                      generalize ((((((((V4.setCell ⟨g4, 0, none⟩ (.bool false)).setCell ⟨g4, 1, none⟩ (.slice p1 k1 d1)).setCell ⟨g4, 2, none⟩ (.slice p2 k2 d2)).setCell ⟨g4, 3, none⟩ (.slice p3 k3 d3)).setCell ⟨g5, 0, none⟩ (.bool false)).setCell ⟨g5, 1, none⟩ (.slice q1 k1 f1)).setCell ⟨g5, 2, none⟩ (.slice q2 k2 f2)).setCell ⟨g5, 3, none⟩ (.slice q3 k3 f3)) = WX at *
                      go_wp2_with fail
                      go_meet
                      case rel => exact hT2.out
                · skip
                  go_simp
                  refine hK.out _ _ (BXW.out _ (KW.out.alloc _)) (fun _ => ?_); clear hK K; (try go_simp)
                  have G4 := hidden (blk_new V1 (.cells #[.bool false, .slice none 0 0, .slice none 0 0, .slice none 0 0] 25))
                  have KA := same_alloc V1 (.cells #[.bool false, .slice none 0 0, .slice none 0 0, .slice none 0 0] 25)
                  have H1 := hidden (H1.out.same KA)
                  have zg4 := KW.out.size
                  have KW := hidden (KW.out.alloc (.cells #[.bool false, .slice none 0 0, .slice none 0 0, .slice none 0 0] 25))
                  clear KA
                  generalize V1.heap.size = g4 at *
                  generalize V1.alloc (.cells #[.bool false, .slice none 0 0, .slice none 0 0, .slice none 0 0] 25) = V2 at *
                  refine wpAnyH_ready (rs := [3, 5]) (by kernel_rfl) (by simp) ?_
                  refine (AllReadyH.cons rfl (fun K hK => ?_) (AllReadyH.cons rfl (fun K hK => ?_) AllReadyH.nil))
                  · skip
                    refine step_call rfl 8 #[.agg #[.bool false, .slice (some ⟨bk, off, none⟩) k1 c1, .slice a2 k2 c2, .slice a3 k3 c3]] (fun u W => CpR n k1 k2 k3 _ u W) (by go_simp; try rfl) (HCq.out _ (K0.out.trans KW.out)) ?_
                    rintro u V3 hu
                    obtain ⟨q1, q2, q3, f1, f2, f3, rfl, cp, kk⟩ := hu.ex
                    rw [HL.out]
                    have H3 := hidden cp
                    have H1 := hidden (H1.out.same kk)
                    have G4 := hidden (blk_kept kk (fun h => h) G4.out)
                    have KW := hidden (KW.out.trans kk)
                    clear hu cp kk
                    refine hK.out _ _ (BXW.out _ (KW.out)) (fun _ => ?_); clear hK K; (try go_simp)
                    refine wpAnyH_ready (rs := [5]) (by kernel_rfl) (by simp) ?_
                    refine (AllReadyH.cons rfl (fun K hK => ?_) AllReadyH.nil)
                    · skip
                      go_simp
                      refine hK.out _ _ (BXW.out _ (KW.out.alloc _)) (fun _ => ?_); clear hK K; (try go_simp)
                      have G5 := hidden (blk_new V3 (.cells #[.bool false, .slice none 0 0, .slice none 0 0, .slice none 0 0] 25))
                      have KA := same_alloc V3 (.cells #[.bool false, .slice none 0 0, .slice none 0 0, .slice none 0 0] 25)
                      have H1 := hidden (H1.out.same KA)
                      have lG4 := blk_lt G4.out
                      have G4 := hidden (blk_kept KA (fun h => h) G4.out)
                      have H3 := hidden (H3.out.same KA)
                      have zg5 := KW.out.size
                      have KW := hidden (KW.out.alloc (.cells #[.bool false, .slice none 0 0, .slice none 0 0, .slice none 0 0] 25))
                      clear KA
                      generalize V3.heap.size = g5 at *
                      generalize V3.alloc (.cells #[.bool false, .slice none 0 0, .slice none 0 0, .slice none 0 0] 25) = V4 at *
                      have hne : g4 ≠ g5 := by omega
                      have c40 := blk_cell (j := 0) G4.out; have c41 := blk_cell (j := 1) G4.out; have c42 := blk_cell (j := 2) G4.out; have c43 := blk_cell (j := 3) G4.out; simp at c40 c41 c42 c43
                      have cf4 := (fun j => blk_free (j := j) G4.out)
                      have c50 := blk_cell (j := 0) G5.out; have c51 := blk_cell (j := 1) G5.out; have c52 := blk_cell (j := 2) G5.out; have c53 := blk_cell (j := 3) G5.out; simp at c50 c51 c52 c53
                      have cf5 := (fun j => blk_free (j := j) G5.out)
                      refine wpAnyH_ready (rs := [6]) (by kernel_rfl) (by simp) ?_
                      refine (AllReadyH.cons rfl (fun K hK => ?_) AllReadyH.nil)
                      go_simp
                      refine hK.out _ _ (BXW.out _ (same_fill4 KW.out (g := g4) (by omega) _ _ _ _)) (fun _ => ?_); clear hK K; (try go_simp)
                      refine wpAnyH_ready (rs := [7]) (by kernel_rfl) (by simp) ?_
                      refine (AllReadyH.cons rfl (fun K hK => ?_) AllReadyH.nil)
                      go_simp
                      refine hK.out _ _ (BXW.out _ (same_fill4 (same_fill4 KW.out (g := g4) (by omega) _ _ _ _) (g := g5) (by omega) _ _ _ _)) (fun _ => ?_); clear hK K; (try go_simp)
                      refine wpAnyH_done (by kernel_rfl) ?_ _
                      have kf := kept_fill8 (W := V4) (g := g4) (h := g5) (.bool false) (.slice p1 k1 d1) (.slice p2 k2 d2) (.slice p3 k3 d3) (.bool false) (.slice q1 k1 f1) (.slice q2 k2 f2) (.slice q3 k3 f3)
                      have hf := fill8 G4.out G5.out hne (.bool false) (.slice p1 k1 d1) (.slice p2 k2 d2) (.slice p3 k3 d3) (.bool false) (.slice q1 k1 f1) (.slice q2 k2 f2) (.slice q3 k3 f3)
                      have hT2 := hidden (show Two n false k1 k2 k3 WA (.pointer (some ⟨g4, 0, none⟩)) (.pointer (some ⟨g5, 0, none⟩)) _ from ⟨g4, g5, p1, p2, p3, d1, d2, d3, q1, q2, q3, f1, f2, f3, rfl, rfl, by omega, by omega, hf.1, hf.2, H1.out.kept kf G4.out G5.out, H3.out.kept kf G4.out G5.out, KW.out.trans' kf (fun i hi hs => by omega)⟩)
                      clear kf hf c40 c41 c42 c43 c50 c51 c52 c53 cf4 cf5
                      generalize ((((((((V4.setCell ⟨g4, 0, none⟩ (.bool false)).setCell ⟨g4, 1, none⟩ (.slice p1 k1 d1)).setCell ⟨g4, 2, none⟩ (.slice p2 k2 d2)).setCell ⟨g4, 3, none⟩ (.slice p3 k3 d3)).setCell ⟨g5, 0, none⟩ (.bool false)).setCell ⟨g5, 1, none⟩ (.slice q1 k1 f1)).setCell ⟨g5, 2, none⟩ (.slice q2 k2 f2)).setCell ⟨g5, 3, none⟩ (.slice q3 k3 f3)) = WX at *
                      go_wp2_with fail
                      go_meet
                      case rel => exact hT2.out
                  · skip
                    go_simp
                    refine hK.out _ _ (BXW.out _ (KW.out.alloc _)) (fun _ => ?_); clear hK K; (try go_simp)
                    have G5 := hidden (blk_new V2 (.cells #[.bool false, .slice none 0 0, .slice none 0 0, .slice none 0 0] 25))
                    have KA := same_alloc V2 (.cells #[.bool false, .slice none 0 0, .slice none 0 0, .slice none 0 0] 25)
                    have H1 := hidden (H1.out.same KA)
                    have lG4 := blk_lt G4.out
                    have G4 := hidden (blk_kept KA (fun h => h) G4.out)
                    have zg5 := KW.out.size
                    have KW := hidden (KW.out.alloc (.cells #[.bool false, .slice none 0 0, .slice none 0 0, .slice none 0 0] 25))
                    clear KA
                    generalize V2.heap.size = g5 at *
                    generalize V2.alloc (.cells #[.bool false, .slice none 0 0, .slice none 0 0, .slice none 0 0] 25) = V3 at *
                    refine wpAnyH_ready (rs := [3]) (by kernel_rfl) (by simp) ?_
                    refine (AllReadyH.cons rfl (fun K hK => ?_) AllReadyH.nil)
                    · skip
                      refine step_call rfl 8 #[.agg #[.bool false, .slice (some ⟨bk, off, none⟩) k1 c1, .slice a2 k2 c2, .slice a3 k3 c3]] (fun u W => CpR n k1 k2 k3 _ u W) (by go_simp; try rfl) (HCq.out _ (K0.out.trans KW.out)) ?_
                      rintro u V4 hu
                      obtain ⟨q1, q2, q3, f1, f2, f3, rfl, cp, kk⟩ := hu.ex
                      rw [HL.out]
                      have H3 := hidden cp
                      have H1 := hidden (H1.out.same kk)
                      have G4 := hidden (blk_kept kk (fun h => h) G4.out)
                      have G5 := hidden (blk_kept kk (fun h => h) G5.out)
                      have KW := hidden (KW.out.trans kk)
                      clear hu cp kk
                      refine hK.out _ _ (BXW.out _ (KW.out)) (fun _ => ?_); clear hK K; (try go_simp)
                      have hne : g4 ≠ g5 := by omega
                      have c40 := blk_cell (j := 0) G4.out; have c41 := blk_cell (j := 1) G4.out; have c42 := blk_cell (j := 2) G4.out; have c43 := blk_cell (j := 3) G4.out; simp at c40 c41 c42 c43
                      have cf4 := (fun j => blk_free (j := j) G4.out)
                      have c50 := blk_cell (j := 0) G5.out; have c51 := blk_cell (j := 1) G5.out; have c52 := blk_cell (j := 2) G5.out; have c53 := blk_cell (j := 3) G5.out; simp at c50 c51 c52 c53
                      have cf5 := (fun j => blk_free (j := j) G5.out)
                      refine wpAnyH_ready (rs := [6]) (by kernel_rfl) (by simp) ?_
                      refine (AllReadyH.cons rfl (fun K hK => ?_) AllReadyH.nil)
                      go_simp
                      refine hK.out _ _ (BXW.out _ (same_fill4 KW.out (g := g4) (by omega) _ _ _ _)) (fun _ => ?_); clear hK K; (try go_simp)
                      refine wpAnyH_ready (rs := [7]) (by kernel_rfl) (by simp) ?_
                      refine (AllReadyH.cons rfl (fun K hK => ?_) AllReadyH.nil)
                      go_simp
                      refine hK.out _ _ (BXW.out _ (same_fill4 (same_fill4 KW.out (g := g4) (by omega) _ _ _ _) (g := g5) (by omega) _ _ _ _)) (fun _ => ?_); clear hK K; (try go_simp)
                      refine wpAnyH_done (by kernel_rfl) ?_ _
                      have kf := kept_fill8 (W := V4) (g := g4) (h := g5) (.bool false) (.slice p1 k1 d1) (.slice p2 k2 d2) (.slice p3 k3 d3) (.bool false) (.slice q1 k1 f1) (.slice q2 k2 f2) (.slice q3 k3 f3)
                      have hf := fill8 G4.out G5.out hne (.bool false) (.slice p1 k1 d1) (.slice p2 k2 d2) (.slice p3 k3 d3) (.bool false) (.slice q1 k1 f1) (.slice q2 k2 f2) (.slice q3 k3 f3)
                      have hT2 := hidden (show Two n false k1 k2 k3 WA (.pointer (some ⟨g4, 0, none⟩)) (.pointer (some ⟨g5, 0, none⟩)) _ from ⟨g4, g5, p1, p2, p3, d1, d2, d3, q1, q2, q3, f1, f2, f3, rfl, rfl, by omega, by omega, hf.1, hf.2, H1.out.kept kf G4.out G5.out, H3.out.kept kf G4.out G5.out, KW.out.trans' kf (fun i hi hs => by omega)⟩)
                      clear kf hf c40 c41 c42 c43 c50 c51 c52 c53 cf4 cf5
                      generalize ((((((((V4.setCell ⟨g4, 0, none⟩ (.bool false)).setCell ⟨g4, 1, none⟩ (.slice p1 k1 d1)).setCell ⟨g4, 2, none⟩ (.slice p2 k2 d2)).setCell ⟨g4, 3, none⟩ (.slice p3 k3 d3)).setCell ⟨g5, 0, none⟩ (.bool false)).setCell ⟨g5, 1, none⟩ (.slice q1 k1 f1)).setCell ⟨g5, 2, none⟩ (.slice q2 k2 f2)).setCell ⟨g5, 3, none⟩ (.slice q3 k3 f3)) = WX at *
                      go_wp2_with fail
                      go_meet
                      case rel => exact hT2.out
                · skip
                  go_simp
                  refine hK.out _ _ (BXW.out _ (KW.out.alloc _)) (fun _ => ?_); clear hK K; (try go_simp)
                  have G5 := hidden (blk_new V1 (.cells #[.bool false, .slice none 0 0, .slice none 0 0, .slice none 0 0] 25))
                  have KA := same_alloc V1 (.cells #[.bool false, .slice none 0 0, .slice none 0 0, .slice none 0 0] 25)
                  have H1 := hidden (H1.out.same KA)
                  have zg5 := KW.out.size
                  have KW := hidden (KW.out.alloc (.cells #[.bool false, .slice none 0 0, .slice none 0 0, .slice none 0 0] 25))
                  clear KA
                  generalize V1.heap.size = g5 at *
                  generalize V1.alloc (.cells #[.bool false, .slice none 0 0, .slice none 0 0, .slice none 0 0] 25) = V2 at *
                  refine wpAnyH_ready (rs := [3, 4]) (by kernel_rfl) (by simp) ?_
                  refine (AllReadyH.cons rfl (fun K hK => ?_) (AllReadyH.cons rfl (fun K hK => ?_) AllReadyH.nil))
                  · skip
                    refine step_call rfl 8 #[.agg #[.bool false, .slice (some ⟨bk, off, none⟩) k1 c1, .slice a2 k2 c2, .slice a3 k3 c3]] (fun u W => CpR n k1 k2 k3 _ u W) (by go_simp; try rfl) (HCq.out _ (K0.out.trans KW.out)) ?_
                    rintro u V3 hu
                    obtain ⟨q1, q2, q3, f1, f2, f3, rfl, cp, kk⟩ := hu.ex
                    rw [HL.out]
                    have H3 := hidden cp
                    have H1 := hidden (H1.out.same kk)
                    have G5 := hidden (blk_kept kk (fun h => h) G5.out)
                    have KW := hidden (KW.out.trans kk)
                    clear hu cp kk
                    refine hK.out _ _ (BXW.out _ (KW.out)) (fun _ => ?_); clear hK K; (try go_simp)
                    refine wpAnyH_ready (rs := [4]) (by kernel_rfl) (by simp) ?_
                    refine (AllReadyH.cons rfl (fun K hK => ?_) AllReadyH.nil)
                    · skip
                      go_simp
                      refine hK.out _ _ (BXW.out _ (KW.out.alloc _)) (fun _ => ?_); clear hK K; (try go_simp)
                      have G4 := hidden (blk_new V3 (.cells #[.bool false, .slice none 0 0, .slice none 0 0, .slice none 0 0] 25))
                      have KA := same_alloc V3 (.cells #[.bool false, .slice none 0 0, .slice none 0 0, .slice none 0 0] 25)
                      have H1 := hidden (H1.out.same KA)
                      have lG5 := blk_lt G5.out
                      have G5 := hidden (blk_kept KA (fun h => h) G5.out)
                      have H3 := hidden (H3.out.same KA)
                      have zg4 := KW.out.size
                      have KW := hidden (KW.out.alloc (.cells #[.bool false, .slice none 0 0, .slice none 0 0, .slice none 0 0] 25))
                      clear KA
                      generalize V3.heap.size = g4 at *
                      generalize V3.alloc (.cells #[.bool false, .slice none 0 0, .slice none 0 0, .slice none 0 0] 25) = V4 at *
                      have hne : g4 ≠ g5 := by omega
                      have c40 := blk_cell (j := 0) G4.out; have c41 := blk_cell (j := 1) G4.out; have c42 := blk_cell (j := 2) G4.out; have c43 := blk_cell (j := 3) G4.out; simp at c40 c41 c42 c43
                      have cf4 := (fun j => blk_free (j := j) G4.out)
                      have c50 := blk_cell (j := 0) G5.out; have c51 := blk_cell (j := 1) G5.out; have c52 := blk_cell (j := 2) G5.out; have c53 := blk_cell (j := 3) G5.out; simp at c50 c51 c52 c53
                      have cf5 := (fun j => blk_free (j := j) G5.out)
                      refine wpAnyH_ready (rs := [6]) (by kernel_rfl) (by simp) ?_
                      refine (AllReadyH.cons rfl (fun K hK => ?_) AllReadyH.nil)
                      go_simp
                      refine hK.out _ _ (BXW.out _ (same_fill4 KW.out (g := g4) (by omega) _ _ _ _)) (fun _ => ?_); clear hK K; (try go_simp)
                      refine wpAnyH_ready (rs := [7]) (by kernel_rfl) (by simp) ?_
                      refine (AllReadyH.cons rfl (fun K hK => ?_) AllReadyH.nil)
                      go_simp
                      refine hK.out _ _ (BXW.out _ (same_fill4 (same_fill4 KW.out (g := g4) (by omega) _ _ _ _) (g := g5) (by omega) _ _ _ _)) (fun _ => ?_); clear hK K; (try go_simp)
                      refine wpAnyH_done (by kernel_rfl) ?_ _
                      have kf := kept_fill8 (W := V4) (g := g4) (h := g5) (.bool false) (.slice p1 k1 d1) (.slice p2 k2 d2) (.slice p3 k3 d3) (.bool false) (.slice q1 k1 f1) (.slice q2 k2 f2) (.slice q3 k3 f3)
                      have hf := fill8 G4.out G5.out hne (.bool false) (.slice p1 k1 d1) (.slice p2 k2 d2) (.slice p3 k3 d3) (.bool false) (.slice q1 k1 f1) (.slice q2 k2 f2) (.slice q3 k3 f3)
                      have hT2 := hidden (show Two n false k1 k2 k3 WA (.pointer (some ⟨g4, 0, none⟩)) (.pointer (some ⟨g5, 0, none⟩)) _ from ⟨g4, g5, p1, p2, p3, d1, d2, d3, q1, q2, q3, f1, f2, f3, rfl, rfl, by omega, by omega, hf.1, hf.2, H1.out.kept kf G4.out G5.out, H3.out.kept kf G4.out G5.out, KW.out.trans' kf (fun i hi hs => by omega)⟩)
                      clear kf hf c40 c41 c42 c43 c50 c51 c52 c53 cf4 cf5
                      generalize ((((((((V4.setCell ⟨g4, 0, none⟩ (.bool false)).setCell ⟨g4, 1, none⟩ (.slice p1 k1 d1)).setCell ⟨g4, 2, none⟩ (.slice p2 k2 d2)).setCell ⟨g4, 3, none⟩ (.slice p3 k3 d3)).setCell ⟨g5, 0, none⟩ (.bool false)).setCell ⟨g5, 1, none⟩ (.slice q1 k1 f1)).setCell ⟨g5, 2, none⟩ (.slice q2 k2 f2)).setCell ⟨g5, 3, none⟩ (.slice q3 k3 f3)) = WX at *
                      go_wp2_with fail
                      go_meet
                      case rel => exact hT2.out
                  · skip
                    go_simp
                    refine hK.out _ _ (BXW.out _ (KW.out.alloc _)) (fun _ => ?_); clear hK K; (try go_simp)
                    have G4 := hidden (blk_new V2 (.cells #[.bool false, .slice none 0 0, .slice none 0 0, .slice none 0 0] 25))
                    have KA := same_alloc V2 (.cells #[.bool false, .slice none 0 0, .slice none 0 0, .slice none 0 0] 25)
                    have H1 := hidden (H1.out.same KA)
                    have lG5 := blk_lt G5.out
                    have G5 := hidden (blk_kept KA (fun h => h) G5.out)
                    have zg4 := KW.out.size
                    have KW := hidden (KW.out.alloc (.cells #[.bool false, .slice none 0 0, .slice none 0 0, .slice none 0 0] 25))
                    clear KA
                    generalize V2.heap.size = g4 at *
                    generalize V2.alloc (.cells #[.bool false, .slice none 0 0, .slice none 0 0, .slice none 0 0] 25) = V3 at *
                    refine wpAnyH_ready (rs := [3]) (by kernel_rfl) (by simp) ?_
                    refine (AllReadyH.cons rfl (fun K hK => ?_) AllReadyH.nil)
                    · skip
                      refine step_call rfl 8 #[.agg #[.bool false, .slice (some ⟨bk, off, none⟩) k1 c1, .slice a2 k2 c2, .slice a3 k3 c3]] (fun u W => CpR n k1 k2 k3 _ u W) (by go_simp; try rfl) (HCq.out _ (K0.out.trans KW.out)) ?_
                      rintro u V4 hu
                      obtain ⟨q1, q2, q3, f1, f2, f3, rfl, cp, kk⟩ := hu.ex
                      rw [HL.out]
                      have H3 := hidden cp
                      have H1 := hidden (H1.out.same kk)
                      have G5 := hidden (blk_kept kk (fun h => h) G5.out)
                      have G4 := hidden (blk_kept kk (fun h => h) G4.out)
                      have KW := hidden (KW.out.trans kk)
                      clear hu cp kk
                      refine hK.out _ _ (BXW.out _ (KW.out)) (fun _ => ?_); clear hK K; (try go_simp)
                      have hne : g4 ≠ g5 := by omega
                      have c40 := blk_cell (j := 0) G4.out; have c41 := blk_cell (j := 1) G4.out; have c42 := blk_cell (j := 2) G4.out; have c43 := blk_cell (j := 3) G4.out; simp at c40 c41 c42 c43
                      have cf4 := (fun j => blk_free (j := j) G4.out)
                      have c50 := blk_cell (j := 0) G5.out; have c51 := blk_cell (j := 1) G5.out; have c52 := blk_cell (j := 2) G5.out; have c53 := blk_cell (j := 3) G5.out; simp at c50 c51 c52 c53
                      have cf5 := (fun j => blk_free (j := j) G5.out)
                      refine wpAnyH_ready (rs := [6]) (by kernel_rfl) (by simp) ?_
                      refine (AllReadyH.cons rfl (fun K hK => ?_) AllReadyH.nil)
                      go_simp
                      refine hK.out _ _ (BXW.out _ (same_fill4 KW.out (g := g4) (by omega) _ _ _ _)) (fun _ => ?_); clear hK K; (try go_simp)
                      refine wpAnyH_ready (rs := [7]) (by kernel_rfl) (by simp) ?_
                      refine (AllReadyH.cons rfl (fun K hK => ?_) AllReadyH.nil)
                      go_simp
                      refine hK.out _ _ (BXW.out _ (same_fill4 (same_fill4 KW.out (g := g4) (by omega) _ _ _ _) (g := g5) (by omega) _ _ _ _)) (fun _ => ?_); clear hK K; (try go_simp)
                      refine wpAnyH_done (by kernel_rfl) ?_ _
                      have kf := kept_fill8 (W := V4) (g := g4) (h := g5) (.bool false) (.slice p1 k1 d1) (.slice p2 k2 d2) (.slice p3 k3 d3) (.bool false) (.slice q1 k1 f1) (.slice q2 k2 f2) (.slice q3 k3 f3)
                      have hf := fill8 G4.out G5.out hne (.bool false) (.slice p1 k1 d1) (.slice p2 k2 d2) (.slice p3 k3 d3) (.bool false) (.slice q1 k1 f1) (.slice q2 k2 f2) (.slice q3 k3 f3)
                      have hT2 := hidden (show Two n false k1 k2 k3 WA (.pointer (some ⟨g4, 0, none⟩)) (.pointer (some ⟨g5, 0, none⟩)) _ from ⟨g4, g5, p1, p2, p3, d1, d2, d3, q1, q2, q3, f1, f2, f3, rfl, rfl, by omega, by omega, hf.1, hf.2, H1.out.kept kf G4.out G5.out, H3.out.kept kf G4.out G5.out, KW.out.trans' kf (fun i hi hs => by omega)⟩)
                      clear kf hf c40 c41 c42 c43 c50 c51 c52 c53 cf4 cf5
                      generalize ((((((((V4.setCell ⟨g4, 0, none⟩ (.bool false)).setCell ⟨g4, 1, none⟩ (.slice p1 k1 d1)).setCell ⟨g4, 2, none⟩ (.slice p2 k2 d2)).setCell ⟨g4, 3, none⟩ (.slice p3 k3 d3)).setCell ⟨g5, 0, none⟩ (.bool false)).setCell ⟨g5, 1, none⟩ (.slice q1 k1 f1)).setCell ⟨g5, 2, none⟩ (.slice q2 k2 f2)).setCell ⟨g5, 3, none⟩ (.slice q3 k3 f3)) = WX at *
                      go_wp2_with fail
                      go_meet
                      case rel => exact hT2.out
              · skip
                go_simp
                refine hK.out _ _ (BXW.out _ (KW.out.alloc _)) (fun _ => ?_); clear hK K; (try go_simp)
                have G4 := hidden (blk_new V0 (.cells #[.bool false, .slice none 0 0, .slice none 0 0, .slice none 0 0] 25))
                have KA := same_alloc V0 (.cells #[.bool false, .slice none 0 0, .slice none 0 0, .slice none 0 0] 25)
                have zg4 := KW.out.size
                have KW := hidden (KW.out.alloc (.cells #[.bool false, .slice none 0 0, .slice none 0 0, .slice none 0 0] 25))
                clear KA
                generalize V0.heap.size = g4 at *
                generalize V0.alloc (.cells #[.bool false, .slice none 0 0, .slice none 0 0, .slice none 0 0] 25) = V1 at *
                refine wpAnyH_ready (rs := [1, 5]) (by kernel_rfl) (by simp) ?_
                refine (AllReadyH.cons rfl (fun K hK => ?_) (AllReadyH.cons rfl (fun K hK => ?_) AllReadyH.nil))
                · skip
                  refine step_call rfl 8 #[.agg #[.bool false, .slice (some ⟨bk, off, none⟩) k1 c1, .slice a2 k2 c2, .slice a3 k3 c3]] (fun u W => CpR n k1 k2 k3 _ u W) (by go_simp; try rfl) (HCq.out _ (K0.out.trans KW.out)) ?_
                  rintro u V2 hu
                  obtain ⟨p1, p2, p3, d1, d2, d3, rfl, cp, kk⟩ := hu.ex
                  rw [HL.out]
                  have H1 := hidden cp
                  have G4 := hidden (blk_kept kk (fun h => h) G4.out)
                  have KW := hidden (KW.out.trans kk)
                  clear hu cp kk
                  refine hK.out _ _ (BXW.out _ (KW.out)) (fun _ => ?_); clear hK K; (try go_simp)
                  refine wpAnyH_ready (rs := [3, 5]) (by kernel_rfl) (by simp) ?_
                  refine (AllReadyH.cons rfl (fun K hK => ?_) (AllReadyH.cons rfl (fun K hK => ?_) AllReadyH.nil))
                  · skip
                    refine step_call rfl 8 #[.agg #[.bool false, .slice (some ⟨bk, off, none⟩) k1 c1, .slice a2 k2 c2, .slice a3 k3 c3]] (fun u W => CpR n k1 k2 k3 _ u W) (by go_simp; try rfl) (HCq.out _ (K0.out.trans KW.out)) ?_
                    rintro u V3 hu
                    obtain ⟨q1, q2, q3, f1, f2, f3, rfl, cp, kk⟩ := hu.ex
                    rw [HL.out]
                    have H3 := hidden cp
                    have G4 := hidden (blk_kept kk (fun h => h) G4.out)
                    have H1 := hidden (H1.out.same kk)
                    have KW := hidden (KW.out.trans kk)
                    clear hu cp kk
                    refine hK.out _ _ (BXW.out _ (KW.out)) (fun _ => ?_); clear hK K; (try go_simp)
                    refine wpAnyH_ready (rs := [5]) (by kernel_rfl) (by simp) ?_
                    refine (AllReadyH.cons rfl (fun K hK => ?_) AllReadyH.nil)
                    · skip
                      go_simp
                      refine hK.out _ _ (BXW.out _ (KW.out.alloc _)) (fun _ => ?_); clear hK K; (try go_simp)
                      have G5 := hidden (blk_new V3 (.cells #[.bool false, .slice none 0 0, .slice none 0 0, .slice none 0 0] 25))
                      have KA := same_alloc V3 (.cells #[.bool false, .slice none 0 0, .slice none 0 0, .slice none 0 0] 25)
                      have lG4 := blk_lt G4.out
                      have G4 := hidden (blk_kept KA (fun h => h) G4.out)
                      have H1 := hidden (H1.out.same KA)
                      have H3 := hidden (H3.out.same KA)
                      have zg5 := KW.out.size
                      have KW := hidden (KW.out.alloc (.cells #[.bool false, .slice none 0 0, .slice none 0 0, .slice none 0 0] 25))
                      clear KA
                      generalize V3.heap.size = g5 at *
                      generalize V3.alloc (.cells #[.bool false, .slice none 0 0, .slice none 0 0, .slice none 0 0] 25) = V4 at *
                      have hne : g4 ≠ g5 := by omega
                      have c40 := blk_cell (j := 0) G4.out; have c41 := blk_cell (j := 1) G4.out; have c42 := blk_cell (j := 2) G4.out; have c43 := blk_cell (j := 3) G4.out; simp at c40 c41 c42 c43
                      have cf4 := (fun j => blk_free (j := j) G4.out)
                      have c50 := blk_cell (j := 0) G5.out; have c51 := blk_cell (j := 1) G5.out; have c52 := blk_cell (j := 2) G5.out; have c53 := blk_cell (j := 3) G5.out; simp at c50 c51 c52 c53
                      have cf5 := (fun j => blk_free (j := j) G5.out)
                      refine wpAnyH_ready (rs := [6]) (by kernel_rfl) (by simp) ?_
                      refine (AllReadyH.cons rfl (fun K hK => ?_) AllReadyH.nil)
                      go_simp
                      refine hK.out _ _ (BXW.out _ (same_fill4 KW.out (g := g4) (by omega) _ _ _ _)) (fun _ => ?_); clear hK K; (try go_simp)
                      refine wpAnyH_ready (rs := [7]) (by kernel_rfl) (by simp) ?_
                      refine (AllReadyH.cons rfl (fun K hK => ?_) AllReadyH.nil)
                      go_simp
                      refine hK.out _ _ (BXW.out _ (same_fill4 (same_fill4 KW.out (g := g4) (by omega) _ _ _ _) (g := g5) (by omega) _ _ _ _)) (fun _ => ?_); clear hK K; (try go_simp)
                      refine wpAnyH_done (by kernel_rfl) ?_ _
                      have kf := kept_fill8 (W := V4) (g := g4) (h := g5) (.bool false) (.slice p1 k1 d1) (.slice p2 k2 d2) (.slice p3 k3 d3) (.bool false) (.slice q1 k1 f1) (.slice q2 k2 f2) (.slice q3 k3 f3)
                      have hf := fill8 G4.out G5.out hne (.bool false) (.slice p1 k1 d1) (.slice p2 k2 d2) (.slice p3 k3 d3) (.bool false) (.slice q1 k1 f1) (.slice q2 k2 f2) (.slice q3 k3 f3)
                      have hT2 := hidden (show Two n false k1 k2 k3 WA (.pointer (some ⟨g4, 0, none⟩)) (.pointer (some ⟨g5, 0, none⟩)) _ from ⟨g4, g5, p1, p2, p3, d1, d2, d3, q1, q2, q3, f1, f2, f3, rfl, rfl, by omega, by omega, hf.1, hf.2, H1.out.kept kf G4.out G5.out, H3.out.kept kf G4.out G5.out, KW.out.trans' kf (fun i hi hs => by omega)⟩)
                      clear kf hf c40 c41 c42 c43 c50 c51 c52 c53 cf4 cf5
                      generalize ((((((((V4.setCell ⟨g4, 0, none⟩ (.bool false)).setCell ⟨g4, 1, none⟩ (.slice p1 k1 d1)).setCell ⟨g4, 2, none⟩ (.slice p2 k2 d2)).setCell ⟨g4, 3, none⟩ (.slice p3 k3 d3)).setCell ⟨g5, 0, none⟩ (.bool false)).setCell ⟨g5, 1, none⟩ (.slice q1 k1 f1)).setCell ⟨g5, 2, none⟩ (.slice q2 k2 f2)).setCell ⟨g5, 3, none⟩ (.slice q3 k3 f3)) = WX at *
                      go_wp2_with fail
                      go_meet
                      case rel => exact hT2.out
                  · skip
                    go_simp
                    refine hK.out _ _ (BXW.out _ (KW.out.alloc _)) (fun _ => ?_); clear hK K; (try go_simp)
                    have G5 := hidden (blk_new V2 (.cells #[.bool false, .slice none 0 0, .slice none 0 0, .slice none 0 0] 25))
                    have KA := same_alloc V2 (.cells #[.bool false, .slice none 0 0, .slice none 0 0, .slice none 0 0] 25)
                    have lG4 := blk_lt G4.out
                    have G4 := hidden (blk_kept KA (fun h => h) G4.out)
                    have H1 := hidden (H1.out.same KA)
                    have zg5 := KW.out.size
                    have KW := hidden (KW.out.alloc (.cells #[.bool false, .slice none 0 0, .slice none 0 0, .slice none 0 0] 25))
                    clear KA
                    generalize V2.heap.size = g5 at *
                    generalize V2.alloc (.cells #[.bool false, .slice none 0 0, .slice none 0 0, .slice none 0 0] 25) = V3 at *
                    refine wpAnyH_ready (rs := [3]) (by kernel_rfl) (by simp) ?_
                    refine (AllReadyH.cons rfl (fun K hK => ?_) AllReadyH.nil)
                    · skip
                      refine step_call rfl 8 #[.agg #[.bool false, .slice (some ⟨bk, off, none⟩) k1 c1, .slice a2 k2 c2, .slice a3 k3 c3]] (fun u W => CpR n k1 k2 k3 _ u W) (by go_simp; try rfl) (HCq.out _ (K0.out.trans KW.out)) ?_
                      rintro u V4 hu
                      obtain ⟨q1, q2, q3, f1, f2, f3, rfl, cp, kk⟩ := hu.ex
                      rw [HL.out]
                      have H3 := hidden cp
                      have G4 := hidden (blk_kept kk (fun h => h) G4.out)
                      have H1 := hidden (H1.out.same kk)
                      have G5 := hidden (blk_kept kk (fun h => h) G5.out)
                      have KW := hidden (KW.out.trans kk)
                      clear hu cp kk
                      refine hK.out _ _ (BXW.out _ (KW.out)) (fun _ => ?_); clear hK K; (try go_simp)
                      have hne : g4 ≠ g5 := by omega
                      have c40 := blk_cell (j := 0) G4.out; have c41 := blk_cell (j := 1) G4.out; have c42 := blk_cell (j := 2) G4.out; have c43 := blk_cell (j := 3) G4.out; simp at c40 c41 c42 c43
                      have cf4 := (fun j => blk_free (j := j) G4.out)
                      have c50 := blk_cell (j := 0) G5.out; have c51 := blk_cell (j := 1) G5.out; have c52 := blk_cell (j := 2) G5.out; have c53 := blk_cell (j := 3) G5.out; simp at c50 c51 c52 c53
                      have cf5 := (fun j => blk_free (j := j) G5.out)
                      refine wpAnyH_ready (rs := [6]) (by kernel_rfl) (by simp) ?_
                      refine (AllReadyH.cons rfl (fun K hK => ?_) AllReadyH.nil)
                      go_simp
                      refine hK.out _ _ (BXW.out _ (same_fill4 KW.out (g := g4) (by omega) _ _ _ _)) (fun _ => ?_); clear hK K; (try go_simp)
                      refine wpAnyH_ready (rs := [7]) (by kernel_rfl) (by simp) ?_
                      refine (AllReadyH.cons rfl (fun K hK => ?_) AllReadyH.nil)
                      go_simp
                      refine hK.out _ _ (BXW.out _ (same_fill4 (same_fill4 KW.out (g := g4) (by omega) _ _ _ _) (g := g5) (by omega) _ _ _ _)) (fun _ => ?_); clear hK K; (try go_simp)
                      refine wpAnyH_done (by kernel_rfl) ?_ _
                      have kf := kept_fill8 (W := V4) (g := g4) (h := g5) (.bool false) (.slice p1 k1 d1) (.slice p2 k2 d2) (.slice p3 k3 d3) (.bool false) (.slice q1 k1 f1) (.slice q2 k2 f2) (.slice q3 k3 f3)
                      have hf := fill8 G4.out G5.out hne (.bool false) (.slice p1 k1 d1) (.slice p2 k2 d2) (.slice p3 k3 d3) (.bool false) (.slice q1 k1 f1) (.slice q2 k2 f2) (.slice q3 k3 f3)
                      have hT2 := hidden (show Two n false k1 k2 k3 WA (.pointer (some ⟨g4, 0, none⟩)) (.pointer (some ⟨g5, 0, none⟩)) _ from ⟨g4, g5, p1, p2, p3, d1, d2, d3, q1, q2, q3, f1, f2, f3, rfl, rfl, by omega, by omega, hf.1, hf.2, H1.out.kept kf G4.out G5.out, H3.out.kept kf G4.out G5.out, KW.out.trans' kf (fun i hi hs => by omega)⟩)
                      clear kf hf c40 c41 c42 c43 c50 c51 c52 c53 cf4 cf5
                      generalize ((((((((V4.setCell ⟨g4, 0, none⟩ (.bool false)).setCell ⟨g4, 1, none⟩ (.slice p1 k1 d1)).setCell ⟨g4, 2, none⟩ (.slice p2 k2 d2)).setCell ⟨g4, 3, none⟩ (.slice p3 k3 d3)).setCell ⟨g5, 0, none⟩ (.bool false)).setCell ⟨g5, 1, none⟩ (.slice q1 k1 f1)).setCell ⟨g5, 2, none⟩ (.slice q2 k2 f2)).setCell ⟨g5, 3, none⟩ (.slice q3 k3 f3)) = WX at *
                      go_wp2_with fail
                      go_meet
                      case rel => exact hT2.out
                · skip
                  go_simp
                  refine hK.out _ _ (BXW.out _ (KW.out.alloc _)) (fun _ => ?_); clear hK K; (try go_simp)
                  have G5 := hidden (blk_new V1 (.cells #[.bool false, .slice none 0 0, .slice none 0 0, .slice none 0 0] 25))
                  have KA := same_alloc V1 (.cells #[.bool false, .slice none 0 0, .slice none 0 0, .slice none 0 0] 25)
                  have lG4 := blk_lt G4.out
                  have G4 := hidden (blk_kept KA (fun h => h) G4.out)
                  have zg5 := KW.out.size
                  have KW := hidden (KW.out.alloc (.cells #[.bool false, .slice none 0 0, .slice none 0 0, .slice none 0 0] 25))
                  clear KA
                  generalize V1.heap.size = g5 at *
                  generalize V1.alloc (.cells #[.bool false, .slice none 0 0, .slice none 0 0, .slice none 0 0] 25) = V2 at *
                  refine wpAnyH_ready (rs := [1]) (by kernel_rfl) (by simp) ?_
                  refine (AllReadyH.cons rfl (fun K hK => ?_) AllReadyH.nil)
                  · skip
                    refine step_call rfl 8 #[.agg #[.bool false, .slice (some ⟨bk, off, none⟩) k1 c1, .slice a2 k2 c2, .slice a3 k3 c3]] (fun u W => CpR n k1 k2 k3 _ u W) (by go_simp; try rfl) (HCq.out _ (K0.out.trans KW.out)) ?_
                    rintro u V3 hu
                    obtain ⟨p1, p2, p3, d1, d2, d3, rfl, cp, kk⟩ := hu.ex
                    rw [HL.out]
                    have H1 := hidden cp
                    have G4 := hidden (blk_kept kk (fun h => h) G4.out)
                    have G5 := hidden (blk_kept kk (fun h => h) G5.out)
                    have KW := hidden (KW.out.trans kk)
                    clear hu cp kk
                    refine hK.out _ _ (BXW.out _ (KW.out)) (fun _ => ?_); clear hK K; (try go_simp)
                    refine wpAnyH_ready (rs := [3]) (by kernel_rfl) (by simp) ?_
                    refine (AllReadyH.cons rfl (fun K hK => ?_) AllReadyH.nil)
                    · skip
                      refine step_call rfl 8 #[.agg #[.bool false, .slice (some ⟨bk, off, none⟩) k1 c1, .slice a2 k2 c2, .slice a3 k3 c3]] (fun u W => CpR n k1 k2 k3 _ u W) (by go_simp; try rfl) (HCq.out _ (K0.out.trans KW.out)) ?_
                      rintro u V4 hu
                      obtain ⟨q1, q2, q3, f1, f2, f3, rfl, cp, kk⟩ := hu.ex
                      rw [HL.out]
                      have H3 := hidden cp
                      have G4 := hidden (blk_kept kk (fun h => h) G4.out)
                      have G5 := hidden (blk_kept kk (fun h => h) G5.out)
                      have H1 := hidden (H1.out.same kk)
                      have KW := hidden (KW.out.trans kk)
                      clear hu cp kk
                      refine hK.out _ _ (BXW.out _ (KW.out)) (fun _ => ?_); clear hK K; (try go_simp)
                      have hne : g4 ≠ g5 := by omega
                      have c40 := blk_cell (j := 0) G4.out; have c41 := blk_cell (j := 1) G4.out; have c42 := blk_cell (j := 2) G4.out; have c43 := blk_cell (j := 3) G4.out; simp at c40 c41 c42 c43
                      have cf4 := (fun j => blk_free (j := j) G4.out)
                      have c50 := blk_cell (j := 0) G5.out; have c51 := blk_cell (j := 1) G5.out; have c52 := blk_cell (j := 2) G5.out; have c53 := blk_cell (j := 3) G5.out; simp at c50 c51 c52 c53
                      have cf5 := (fun j => blk_free (j := j) G5.out)
                      refine wpAnyH_ready (rs := [6]) (by kernel_rfl) (by simp) ?_
                      refine (AllReadyH.cons rfl (fun K hK => ?_) AllReadyH.nil)
                      go_simp
                      refine hK.out _ _ (BXW.out _ (same_fill4 KW.out (g := g4) (by omega) _ _ _ _)) (fun _ => ?_); clear hK K; (try go_simp)
                      refine wpAnyH_ready (rs := [7]) (by kernel_rfl) (by simp) ?_
                      refine (AllReadyH.cons rfl (fun K hK => ?_) AllReadyH.nil)
                      go_simp
                      refine hK.out _ _ (BXW.out _ (same_fill4 (same_fill4 KW.out (g := g4) (by omega) _ _ _ _) (g := g5) (by omega) _ _ _ _)) (fun _ => ?_); clear hK K; (try go_simp)
                      refine wpAnyH_done (by kernel_rfl) ?_ _
                      have kf := kept_fill8 (W := V4) (g := g4) (h := g5) (.bool false) (.slice p1 k1 d1) (.slice p2 k2 d2) (.slice p3 k3 d3) (.bool false) (.slice q1 k1 f1) (.slice q2 k2 f2) (.slice q3 k3 f3)
                      have hf := fill8 G4.out G5.out hne (.bool false) (.slice p1 k1 d1) (.slice p2 k2 d2) (.slice p3 k3 d3) (.bool false) (.slice q1 k1 f1) (.slice q2 k2 f2) (.slice q3 k3 f3)
                      have hT2 := hidden (show Two n false k1 k2 k3 WA (.pointer (some ⟨g4, 0, none⟩)) (.pointer (some ⟨g5, 0, none⟩)) _ from ⟨g4, g5, p1, p2, p3, d1, d2, d3, q1, q2, q3, f1, f2, f3, rfl, rfl, by omega, by omega, hf.1, hf.2, H1.out.kept kf G4.out G5.out, H3.out.kept kf G4.out G5.out, KW.out.trans' kf (fun i hi hs => by omega)⟩)
                      clear kf hf c40 c41 c42 c43 c50 c51 c52 c53 cf4 cf5
                      generalize ((((((((V4.setCell ⟨g4, 0, none⟩ (.bool false)).setCell ⟨g4, 1, none⟩ (.slice p1 k1 d1)).setCell ⟨g4, 2, none⟩ (.slice p2 k2 d2)).setCell ⟨g4, 3, none⟩ (.slice p3 k3 d3)).setCell ⟨g5, 0, none⟩ (.bool false)).setCell ⟨g5, 1, none⟩ (.slice q1 k1 f1)).setCell ⟨g5, 2, none⟩ (.slice q2 k2 f2)).setCell ⟨g5, 3, none⟩ (.slice q3 k3 f3)) = WX at *
                      go_wp2_with fail
                      go_meet
                      case rel => exact hT2.out
              · skip
                go_simp
                refine hK.out _ _ (BXW.out _ (KW.out.alloc _)) (fun _ => ?_); clear hK K; (try go_simp)
                have G5 := hidden (blk_new V0 (.cells #[.bool false, .slice none 0 0, .slice none 0 0, .slice none 0 0] 25))
                have KA := same_alloc V0 (.cells #[.bool false, .slice none 0 0, .slice none 0 0, .slice none 0 0] 25)
                have zg5 := KW.out.size
                have KW := hidden (KW.out.alloc (.cells #[.bool false, .slice none 0 0, .slice none 0 0, .slice none 0 0] 25))
                clear KA
                generalize V0.heap.size = g5 at *
                generalize V0.alloc (.cells #[.bool false, .slice none 0 0, .slice none 0 0, .slice none 0 0] 25) = V1 at *
                refine wpAnyH_ready (rs := [1, 4]) (by kernel_rfl) (by simp) ?_
                refine (AllReadyH.cons rfl (fun K hK => ?_) (AllReadyH.cons rfl (fun K hK => ?_) AllReadyH.nil))
                · skip
                  refine step_call rfl 8 #[.agg #[.bool false, .slice (some ⟨bk, off, none⟩) k1 c1, .slice a2 k2 c2, .slice a3 k3 c3]] (fun u W => CpR n k1 k2 k3 _ u W) (by go_simp; try rfl) (HCq.out _ (K0.out.trans KW.out)) ?_
                  rintro u V2 hu
                  obtain ⟨p1, p2, p3, d1, d2, d3, rfl, cp, kk⟩ := hu.ex
                  rw [HL.out]
                  have H1 := hidden cp
                  have G5 := hidden (blk_kept kk (fun h => h) G5.out)
                  have KW := hidden (KW.out.trans kk)
                  clear hu cp kk
                  refine hK.out _ _ (BXW.out _ (KW.out)) (fun _ => ?_); clear hK K; (try go_simp)
                  refine wpAnyH_ready (rs := [3, 4]) (by kernel_rfl) (by simp) ?_
                  refine (AllReadyH.cons rfl (fun K hK => ?_) (AllReadyH.cons rfl (fun K hK => ?_) AllReadyH.nil))
                  · skip
                    refine step_call rfl 8 #[.agg #[.bool false, .slice (some ⟨bk, off, none⟩) k1 c1, .slice a2 k2 c2, .slice a3 k3 c3]] (fun u W => CpR n k1 k2 k3 _ u W) (by go_simp; try rfl) (HCq.out _ (K0.out.trans KW.out)) ?_
                    rintro u V3 hu
                    obtain ⟨q1, q2, q3, f1, f2, f3, rfl, cp, kk⟩ := hu.ex
                    rw [HL.out]
                    have H3 := hidden cp
                    have G5 := hidden (blk_kept kk (fun h => h) G5.out)
                    have H1 := hidden (H1.out.same kk)
                    have KW := hidden (KW.out.trans kk)
                    clear hu cp kk
                    refine hK.out _ _ (BXW.out _ (KW.out)) (fun _ => ?_); clear hK K; (try go_simp)
                    refine wpAnyH_ready (rs := [4]) (by kernel_rfl) (by simp) ?_
                    refine (AllReadyH.cons rfl (fun K hK => ?_) AllReadyH.nil)
                    · skip
                      go_simp
                      refine hK.out _ _ (BXW.out _ (KW.out.alloc _)) (fun _ => ?_); clear hK K; (try go_simp)
                      have G4 := hidden (blk_new V3 (.cells #[.bool false, .slice none 0 0, .slice none 0 0, .slice none 0 0] 25))
                      have KA := same_alloc V3 (.cells #[.bool false, .slice none 0 0, .slice none 0 0, .slice none 0 0] 25)
                      have lG5 := blk_lt G5.out
                      have G5 := hidden (blk_kept KA (fun h => h) G5.out)
                      have H1 := hidden (H1.out.same KA)
                      have H3 := hidden (H3.out.same KA)
                      have zg4 := KW.out.size
                      have KW := hidden (KW.out.alloc (.cells #[.bool false, .slice none 0 0, .slice none 0 0, .slice none 0 0] 25))
                      clear KA
                      generalize V3.heap.size = g4 at *
                      generalize V3.alloc (.cells #[.bool false, .slice none 0 0, .slice none 0 0, .slice none 0 0] 25) = V4 at *
                      have hne : g4 ≠ g5 := by omega
                      have c40 := blk_cell (j := 0) G4.out; have c41 := blk_cell (j := 1) G4.out; have c42 := blk_cell (j := 2) G4.out; have c43 := blk_cell (j := 3) G4.out; simp at c40 c41 c42 c43
                      have cf4 := (fun j => blk_free (j := j) G4.out)
                      have c50 := blk_cell (j := 0) G5.out; have c51 := blk_cell (j := 1) G5.out; have c52 := blk_cell (j := 2) G5.out; have c53 := blk_cell (j := 3) G5.out; simp at c50 c51 c52 c53
                      have cf5 := (fun j => blk_free (j := j) G5.out)
                      refine wpAnyH_ready (rs := [6]) (by kernel_rfl) (by simp) ?_
                      refine (AllReadyH.cons rfl (fun K hK => ?_) AllReadyH.nil)
                      go_simp
                      refine hK.out _ _ (BXW.out _ (same_fill4 KW.out (g := g4) (by omega) _ _ _ _)) (fun _ => ?_); clear hK K; (try go_simp)
                      refine wpAnyH_ready (rs := [7]) (by kernel_rfl) (by simp) ?_
                      refine (AllReadyH.cons rfl (fun K hK => ?_) AllReadyH.nil)
                      go_simp
                      refine hK.out _ _ (BXW.out _ (same_fill4 (same_fill4 KW.out (g := g4) (by omega) _ _ _ _) (g := g5) (by omega) _ _ _ _)) (fun _ => ?_); clear hK K; (try go_simp)
                      refine wpAnyH_done (by kernel_rfl) ?_ _
                      have kf := kept_fill8 (W := V4) (g := g4) (h := g5) (.bool false) (.slice p1 k1 d1) (.slice p2 k2 d2) (.slice p3 k3 d3) (.bool false) (.slice q1 k1 f1) (.slice q2 k2 f2) (.slice q3 k3 f3)
                      have hf := fill8 G4.out G5.out hne (.bool false) (.slice p1 k1 d1) (.slice p2 k2 d2) (.slice p3 k3 d3) (.bool false) (.slice q1 k1 f1) (.slice q2 k2 f2) (.slice q3 k3 f3)
                      have hT2 := hidden (show Two n false k1 k2 k3 WA (.pointer (some ⟨g4, 0, none⟩)) (.pointer (some ⟨g5, 0, none⟩)) _ from ⟨g4, g5, p1, p2, p3, d1, d2, d3, q1, q2, q3, f1, f2, f3, rfl, rfl, by omega, by omega, hf.1, hf.2, H1.out.kept kf G4.out G5.out, H3.out.kept kf G4.out G5.out, KW.out.trans' kf (fun i hi hs => by omega)⟩)
                      clear kf hf c40 c41 c42 c43 c50 c51 c52 c53 cf4 cf5
                      generalize ((((((((V4.setCell ⟨g4, 0, none⟩ (.bool false)).setCell ⟨g4, 1, none⟩ (.slice p1 k1 d1)).setCell ⟨g4, 2, none⟩ (.slice p2 k2 d2)).setCell ⟨g4, 3, none⟩ (.slice p3 k3 d3)).setCell ⟨g5, 0, none⟩ (.bool false)).setCell ⟨g5, 1, none⟩ (.slice q1 k1 f1)).setCell ⟨g5, 2, none⟩ (.slice q2 k2 f2)).setCell ⟨g5, 3, none⟩ (.slice q3 k3 f3)) = WX at *
                      go_wp2_with fail
                      go_meet
                      case rel => exact hT2.out
                  · skip
                    go_simp
                    refine hK.out _ _ (BXW.out _ (KW.out.alloc _)) (fun _ => ?_); clear hK K; (try go_simp)
                    have G4 := hidden (blk_new V2 (.cells #[.bool false, .slice none 0 0, .slice none 0 0, .slice none 0 0] 25))
                    have KA := same_alloc V2 (.cells #[.bool false, .slice none 0 0, .slice none 0 0, .slice none 0 0] 25)
                    have lG5 := blk_lt G5.out
                    have G5 := hidden (blk_kept KA (fun h => h) G5.out)
                    have H1 := hidden (H1.out.same KA)
                    have zg4 := KW.out.size
                    have KW := hidden (KW.out.alloc (.cells #[.bool false, .slice none 0 0, .slice none 0 0, .slice none 0 0] 25))
                    clear KA
                    generalize V2.heap.size = g4 at *
                    generalize V2.alloc (.cells #[.bool false, .slice none 0 0, .slice none 0 0, .slice none 0 0] 25) = V3 at *
                    refine wpAnyH_ready (rs := [3]) (by kernel_rfl) (by simp) ?_
                    refine (AllReadyH.cons rfl (fun K hK => ?_) AllReadyH.nil)
                    · skip
                      refine step_call rfl 8 #[.agg #[.bool false, .slice (some ⟨bk, off, none⟩) k1 c1, .slice a2 k2 c2, .slice a3 k3 c3]] (fun u W => CpR n k1 k2 k3 _ u W) (by go_simp; try rfl) (HCq.out _ (K0.out.trans KW.out)) ?_
                      rintro u V4 hu
                      obtain ⟨q1, q2, q3, f1, f2, f3, rfl, cp, kk⟩ := hu.ex
                      rw [HL.out]
                      have H3 := hidden cp
                      have G5 := hidden (blk_kept kk (fun h => h) G5.out)
                      have H1 := hidden (H1.out.same kk)
                      have G4 := hidden (blk_kept kk (fun h => h) G4.out)
                      have KW := hidden (KW.out.trans kk)
                      clear hu cp kk
                      refine hK.out _ _ (BXW.out _ (KW.out)) (fun _ => ?_); clear hK K; (try go_simp)
                      have hne : g4 ≠ g5 := by omega
                      have c40 := blk_cell (j := 0) G4.out; have c41 := blk_cell (j := 1) G4.out; have c42 := blk_cell (j := 2) G4.out; have c43 := blk_cell (j := 3) G4.out; simp at c40 c41 c42 c43
                      have cf4 := (fun j => blk_free (j := j) G4.out)
                      have c50 := blk_cell (j := 0) G5.out; have c51 := blk_cell (j := 1) G5.out; have c52 := blk_cell (j := 2) G5.out; have c53 := blk_cell (j := 3) G5.out; simp at c50 c51 c52 c53
                      have cf5 := (fun j => blk_free (j := j) G5.out)
                      refine wpAnyH_ready (rs := [6]) (by kernel_rfl) (by simp) ?_
                      refine (AllReadyH.cons rfl (fun K hK => ?_) AllReadyH.nil)
                      go_simp
                      refine hK.out _ _ (BXW.out _ (same_fill4 KW.out (g := g4) (by omega) _ _ _ _)) (fun _ => ?_); clear hK K; (try go_simp)
                      refine wpAnyH_ready (rs := [7]) (by kernel_rfl) (by simp) ?_
                      refine (AllReadyH.cons rfl (fun K hK => ?_) AllReadyH.nil)
                      go_simp
                      refine hK.out _ _ (BXW.out _ (same_fill4 (same_fill4 KW.out (g := g4) (by omega) _ _ _ _) (g := g5) (by omega) _ _ _ _)) (fun _ => ?_); clear hK K; (try go_simp)
                      refine wpAnyH_done (by kernel_rfl) ?_ _
                      have kf := kept_fill8 (W := V4) (g := g4) (h := g5) (.bool false) (.slice p1 k1 d1) (.slice p2 k2 d2) (.slice p3 k3 d3) (.bool false) (.slice q1 k1 f1) (.slice q2 k2 f2) (.slice q3 k3 f3)
                      have hf := fill8 G4.out G5.out hne (.bool false) (.slice p1 k1 d1) (.slice p2 k2 d2) (.slice p3 k3 d3) (.bool false) (.slice q1 k1 f1) (.slice q2 k2 f2) (.slice q3 k3 f3)
                      have hT2 := hidden (show Two n false k1 k2 k3 WA (.pointer (some ⟨g4, 0, none⟩)) (.pointer (some ⟨g5, 0, none⟩)) _ from ⟨g4, g5, p1, p2, p3, d1, d2, d3, q1, q2, q3, f1, f2, f3, rfl, rfl, by omega, by omega, hf.1, hf.2, H1.out.kept kf G4.out G5.out, H3.out.kept kf G4.out G5.out, KW.out.trans' kf (fun i hi hs => by omega)⟩)
                      clear kf hf c40 c41 c42 c43 c50 c51 c52 c53 cf4 cf5
                      generalize ((((((((V4.setCell ⟨g4, 0, none⟩ (.bool false)).setCell ⟨g4, 1, none⟩ (.slice p1 k1 d1)).setCell ⟨g4, 2, none⟩ (.slice p2 k2 d2)).setCell ⟨g4, 3, none⟩ (.slice p3 k3 d3)).setCell ⟨g5, 0, none⟩ (.bool false)).setCell ⟨g5, 1, none⟩ (.slice q1 k1 f1)).setCell ⟨g5, 2, none⟩ (.slice q2 k2 f2)).setCell ⟨g5, 3, none⟩ (.slice q3 k3 f3)) = WX at *
                      go_wp2_with fail
                      go_meet
                      case rel => exact hT2.out
                · skip
                  go_simp
                  refine hK.out _ _ (BXW.out _ (KW.out.alloc _)) (fun _ => ?_); clear hK K; (try go_simp)
                  have G4 := hidden (blk_new V1 (.cells #[.bool false, .slice none 0 0, .slice none 0 0, .slice none 0 0] 25))
                  have KA := same_alloc V1 (.cells #[.bool false, .slice none 0 0, .slice none 0 0, .slice none 0 0] 25)
                  have lG5 := blk_lt G5.out
                  have G5 := hidden (blk_kept KA (fun h => h) G5.out)
                  have zg4 := KW.out.size
                  have KW := hidden (KW.out.alloc (.cells #[.bool false, .slice none 0 0, .slice none 0 0, .slice none 0 0] 25))
                  clear KA
                  generalize V1.heap.size = g4 at *
                  generalize V1.alloc (.cells #[.bool false, .slice none 0 0, .slice none 0 0, .slice none 0 0] 25) = V2 at *
                  refine wpAnyH_ready (rs := [1]) (by kernel_rfl) (by simp) ?_
                  refine (AllReadyH.cons rfl (fun K hK => ?_) AllReadyH.nil)
                  · skip
                    refine step_call rfl 8 #[.agg #[.bool false, .slice (some ⟨bk, off, none⟩) k1 c1, .slice a2 k2 c2, .slice a3 k3 c3]] (fun u W => CpR n k1 k2 k3 _ u W) (by go_simp; try rfl) (HCq.out _ (K0.out.trans KW.out)) ?_
                    rintro u V3 hu
                    obtain ⟨p1, p2, p3, d1, d2, d3, rfl, cp, kk⟩ := hu.ex
                    rw [HL.out]
                    have H1 := hidden cp
                    have G5 := hidden (blk_kept kk (fun h => h) G5.out)
                    have G4 := hidden (blk_kept kk (fun h => h) G4.out)
                    have KW := hidden (KW.out.trans kk)
                    clear hu cp kk
                    refine hK.out _ _ (BXW.out _ (KW.out)) (fun _ => ?_); clear hK K; (try go_simp)
                    refine wpAnyH_ready (rs := [3]) (by kernel_rfl) (by simp) ?_
                    refine (AllReadyH.cons rfl (fun K hK => ?_) AllReadyH.nil)
                    · skip
                      refine step_call rfl 8 #[.agg #[.bool false, .slice (some ⟨bk, off, none⟩) k1 c1, .slice a2 k2 c2, .slice a3 k3 c3]] (fun u W => CpR n k1 k2 k3 _ u W) (by go_simp; try rfl) (HCq.out _ (K0.out.trans KW.out)) ?_
                      rintro u V4 hu
                      obtain ⟨q1, q2, q3, f1, f2, f3, rfl, cp, kk⟩ := hu.ex
                      rw [HL.out]
                      have H3 := hidden cp
                      have G5 := hidden (blk_kept kk (fun h => h) G5.out)
                      have G4 := hidden (blk_kept kk (fun h => h) G4.out)
                      have H1 := hidden (H1.out.same kk)
                      have KW := hidden (KW.out.trans kk)
                      clear hu cp kk
                      refine hK.out _ _ (BXW.out _ (KW.out)) (fun _ => ?_); clear hK K; (try go_simp)
                      have hne : g4 ≠ g5 := by omega
                      have c40 := blk_cell (j := 0) G4.out; have c41 := blk_cell (j := 1) G4.out; have c42 := blk_cell (j := 2) G4.out; have c43 := blk_cell (j := 3) G4.out; simp at c40 c41 c42 c43
                      have cf4 := (fun j => blk_free (j := j) G4.out)
                      have c50 := blk_cell (j := 0) G5.out; have c51 := blk_cell (j := 1) G5.out; have c52 := blk_cell (j := 2) G5.out; have c53 := blk_cell (j := 3) G5.out; simp at c50 c51 c52 c53
                      have cf5 := (fun j => blk_free (j := j) G5.out)
                      refine wpAnyH_ready (rs := [6]) (by kernel_rfl) (by simp) ?_
                      refine (AllReadyH.cons rfl (fun K hK => ?_) AllReadyH.nil)
                      go_simp
                      refine hK.out _ _ (BXW.out _ (same_fill4 KW.out (g := g4) (by omega) _ _ _ _)) (fun _ => ?_); clear hK K; (try go_simp)
                      refine wpAnyH_ready (rs := [7]) (by kernel_rfl) (by simp) ?_
                      refine (AllReadyH.cons rfl (fun K hK => ?_) AllReadyH.nil)
                      go_simp
                      refine hK.out _ _ (BXW.out _ (same_fill4 (same_fill4 KW.out (g := g4) (by omega) _ _ _ _) (g := g5) (by omega) _ _ _ _)) (fun _ => ?_); clear hK K; (try go_simp)
                      refine wpAnyH_done (by kernel_rfl) ?_ _
                      have kf := kept_fill8 (W := V4) (g := g4) (h := g5) (.bool false) (.slice p1 k1 d1) (.slice p2 k2 d2) (.slice p3 k3 d3) (.bool false) (.slice q1 k1 f1) (.slice q2 k2 f2) (.slice q3 k3 f3)
                      have hf := fill8 G4.out G5.out hne (.bool false) (.slice p1 k1 d1) (.slice p2 k2 d2) (.slice p3 k3 d3) (.bool false) (.slice q1 k1 f1) (.slice q2 k2 f2) (.slice q3 k3 f3)
                      have hT2 := hidden (show Two n false k1 k2 k3 WA (.pointer (some ⟨g4, 0, none⟩)) (.pointer (some ⟨g5, 0, none⟩)) _ from ⟨g4, g5, p1, p2, p3, d1, d2, d3, q1, q2, q3, f1, f2, f3, rfl, rfl, by omega, by omega, hf.1, hf.2, H1.out.kept kf G4.out G5.out, H3.out.kept kf G4.out G5.out, KW.out.trans' kf (fun i hi hs => by omega)⟩)
                      clear kf hf c40 c41 c42 c43 c50 c51 c52 c53 cf4 cf5
                      generalize ((((((((V4.setCell ⟨g4, 0, none⟩ (.bool false)).setCell ⟨g4, 1, none⟩ (.slice p1 k1 d1)).setCell ⟨g4, 2, none⟩ (.slice p2 k2 d2)).setCell ⟨g4, 3, none⟩ (.slice p3 k3 d3)).setCell ⟨g5, 0, none⟩ (.bool false)).setCell ⟨g5, 1, none⟩ (.slice q1 k1 f1)).setCell ⟨g5, 2, none⟩ (.slice q2 k2 f2)).setCell ⟨g5, 3, none⟩ (.slice q3 k3 f3)) = WX at *
                      go_wp2_with fail
                      go_meet
                      case rel => exact hT2.out
            case rest =>
              obtain ⟨g, h, p1, p2, p3, d1, d2, d3, q1, q2, q3, f1, f2, f3, rfl, rfl, hg, hh, bg, bh, cp1, cp2, kc⟩ := hcut.ex
              clear hcut S3 S1 S2 K1 y0 y1 y2 y3
              obtain ⟨z0, z1, z2, z3⟩ := BXW.out wc kc
              have KC := hidden kc
              have CP1 := hidden cp1
              have CP2 := hidden cp2
              have BG := hidden bg
              have BH := hidden bh
              have hc1 := (Row.own cp1.r1).len.2
              have hc2 := (Row.own cp1.r2).len.2
              have hc3 := (Row.own cp1.r3).len.2
              have hd1 := (Row.own cp2.r1).len.2
              have hd2 := (Row.own cp2.r2).len.2
              have hd3 := (Row.own cp2.r3).len.2
              clear cp1 cp2 kc bg bh
              have hkk := HKK.out
              have s1 := sl_first unS szS p1 k1 d1 i (by omega) hc1
              have s2 : ∀ W, (Instr.sliceAt 23 (.slice p3 k3 d3) none (some (.int .i64 ((i : Int) + 1))) none).run Tryd.prog W = _ := fun W => sl_first unI szI p3 k3 d3 (i + 1) (by omega) hc3 W
              have t1 : ∀ W, (Instr.sliceAt 22 (.slice q1 k1 f1) (some (.int .i64 ((i : Int) + 1))) none none).run Tryd.prog W = _ := fun W => sl_rest unS szS q1 k1 f1 (i + 1) (by omega) hd1 W
              have t2 : ∀ W, (Instr.sliceAt 23 (.slice q3 k3 f3) (some (.int .i64 ((i : Int) + 1))) none none).run Tryd.prog W = _ := fun W => sl_rest unI szI q3 k3 f3 (i + 1) (by omega) hd3 W
              generalize hx1 : (if d1 = 0 then p1 else p1.map (·.add (0 * 1))) = x1 at s1
              generalize hx2 : (if d3 = 0 then p3 else p3.map (·.add (0 * 1))) = x2 at s2
              generalize hy1 : (if f1 = i + 1 then q1 else q1.map (·.add ((i + 1) * 1))) = y1 at t1
              generalize hy2 : (if f3 = i + 1 then q3 else q3.map (·.add ((i + 1) * 1))) = y2 at t2
              have HX1 := hidden hx1
              have HX2 := hidden hx2
              have HY1 := hidden hy1
              have HY2 := hidden hy2
              clear hx1 hx2 hy1 hy2 hkk hc1 hc2 hc3 hd1 hd2 hd3
              have hmx : Tryd.prog.follows .mixedOrders = true := by kernel_rfl
              go_wp2
              have HS1 : Hid (∀ W, Same wc W → (fun W : World => W.cell? ⟨g, 1, none⟩ = some (.slice p1 k1 d1) ∧ W.cell? ⟨g, 3, none⟩ = some (.slice p3 k3 d3)) W) := hidden (fun W kk => ⟨(blk_cell (blk_kept kk (fun h => h) BG.out)).trans rfl, (blk_cell (blk_kept kk (fun h => h) BG.out)).trans rfl⟩)
              refine wp_region_held_drew (S := (fun W : World => W.cell? ⟨g, 1, none⟩ = some (.slice p1 k1 d1) ∧ W.cell? ⟨g, 3, none⟩ = some (.slice p3 k3 d3))) hmx (HS1.out _ ((Kept.refl (fun _ => False) wc).drew)) (fun _ => ?_)
              refine wpAnyH_take (i := 0) (v := (.pointer (some ⟨g, 1, none⟩))) rfl (by kernel_rfl) (by kernel_rfl) (by kernel_rfl) (fun _ _ _ h => h) (Or.inl ⟨by rfl, (by intro w hSw; obtain ⟨j0, j1⟩ := hSw; go_simp; try (first | rfl | (rw [IntKind.wrap_i64]; omega)))⟩) (HS1.out _ ((Kept.refl (fun _ => False) wc).drew)) ?_; (try go_simp)
              refine wpAnyH_take (i := 1) (v := (.slice p1 k1 d1)) rfl (by kernel_rfl) (by kernel_rfl) (by kernel_rfl) (fun _ _ _ h => h) (Or.inl ⟨by rfl, (by intro w hSw; obtain ⟨j0, j1⟩ := hSw; go_simp; try (first | rfl | (rw [IntKind.wrap_i64]; omega)))⟩) (HS1.out _ ((Kept.refl (fun _ => False) wc).drew)) ?_; (try go_simp)
              refine wpAnyH_take (i := 2) (v := (.int .i64 i)) rfl (by kernel_rfl) (by kernel_rfl) (by kernel_rfl) (fun _ _ _ h => h) (Or.inl ⟨by rfl, (by intro w hSw; obtain ⟨j0, j1⟩ := hSw; go_simp; try (first | rfl | (rw [IntKind.wrap_i64]; omega)))⟩) (HS1.out _ ((Kept.refl (fun _ => False) wc).drew)) ?_; (try go_simp)
              refine wpAnyH_take (i := 3) (v := (.slice x1 i d1)) rfl (by kernel_rfl) (by kernel_rfl) (by kernel_rfl) (fun _ _ _ h => h) (Or.inl ⟨by rfl, (by intro w hSw; obtain ⟨j0, j1⟩ := hSw; go_simp; try (first | rfl | (rw [IntKind.wrap_i64]; omega)))⟩) (HS1.out _ ((Kept.refl (fun _ => False) wc).drew)) ?_; (try go_simp)
              refine wpAnyH_take (i := 4) (v := (.pointer (some ⟨g, 3, none⟩))) rfl (by kernel_rfl) (by kernel_rfl) (by kernel_rfl) (fun _ _ _ h => h) (Or.inl ⟨by rfl, (by intro w hSw; obtain ⟨j0, j1⟩ := hSw; go_simp; try (first | rfl | (rw [IntKind.wrap_i64]; omega)))⟩) (HS1.out _ ((Kept.refl (fun _ => False) wc).drew)) ?_; (try go_simp)
              refine wpAnyH_take (i := 5) (v := (.slice p3 k3 d3)) rfl (by kernel_rfl) (by kernel_rfl) (by kernel_rfl) (fun _ _ _ h => h) (Or.inl ⟨by rfl, (by intro w hSw; obtain ⟨j0, j1⟩ := hSw; go_simp; try (first | rfl | (rw [IntKind.wrap_i64]; omega)))⟩) (HS1.out _ ((Kept.refl (fun _ => False) wc).drew)) ?_; (try go_simp)
              refine wpAnyH_take (i := 6) (v := (.int .i64 i)) rfl (by kernel_rfl) (by kernel_rfl) (by kernel_rfl) (fun _ _ _ h => h) (Or.inl ⟨by rfl, (by intro w hSw; obtain ⟨j0, j1⟩ := hSw; go_simp; try (first | rfl | (rw [IntKind.wrap_i64]; omega)))⟩) (HS1.out _ ((Kept.refl (fun _ => False) wc).drew)) ?_; (try go_simp)
              refine wpAnyH_take (i := 7) (v := (.int .i64 ((i : Int) + 1))) rfl (by kernel_rfl) (by kernel_rfl) (by kernel_rfl) (fun _ _ _ h => h) (Or.inl ⟨by rfl, (by intro w hSw; obtain ⟨j0, j1⟩ := hSw; go_simp; try (first | rfl | (rw [IntKind.wrap_i64]; omega)))⟩) (HS1.out _ ((Kept.refl (fun _ => False) wc).drew)) ?_; (try go_simp)
              refine wpAnyH_take (i := 8) (v := (.slice x2 (i + 1) d3)) rfl (by kernel_rfl) (by kernel_rfl) (by kernel_rfl) (fun _ _ _ h => h) (Or.inl ⟨by rfl, (by intro w hSw; obtain ⟨j0, j1⟩ := hSw; go_simp; try (first | rfl | (rw [IntKind.wrap_i64]; omega)))⟩) (HS1.out _ ((Kept.refl (fun _ => False) wc).drew)) ?_; (try go_simp)
              refine wpAnyH_take (i := 9) (v := (.agg #[.bool false, .slice x1 i d1, .slice none 0 0, .slice x2 (i + 1) d3])) rfl (by kernel_rfl) (by kernel_rfl) (by kernel_rfl) (fun _ _ _ h => h) (Or.inl ⟨by rfl, (by intro w hSw; obtain ⟨j0, j1⟩ := hSw; go_simp; try (first | rfl | (rw [IntKind.wrap_i64]; omega)))⟩) (HS1.out _ ((Kept.refl (fun _ => False) wc).drew)) ?_; (try go_simp)
              refine wpAnyH_ready (rs := [10]) (by kernel_rfl) (by simp) ?_
              refine (AllReadyH.cons rfl (fun K hK => ?_) AllReadyH.nil)
              go_simp
              refine hK.out _ _ (HS1.out _ (((Kept.refl (fun _ => False) wc).drew).alloc _)) (fun _ => ?_); clear hK K; (try go_simp)
              refine wpAnyH_ready (rs := [11]) (by kernel_rfl) (by simp) ?_
              refine (AllReadyH.cons rfl (fun K hK => ?_) AllReadyH.nil)
              go_simp
              refine hK.out _ _ (HS1.out _ (((Kept.refl (fun _ => False) wc).drew).alloc _)) (fun _ => ?_); clear hK K; (try go_simp)
              refine wpAnyH_done (by kernel_rfl) ?_ _
              have Bg14 := hidden (blk_new wc (.cells #[.bool false, .slice x1 i d1, .slice none 0 0, .slice x2 (i + 1) d3] 25))
              have KA : Same wc (wc.alloc (.cells #[.bool false, .slice x1 i d1, .slice none 0 0, .slice x2 (i + 1) d3] 25)).drew := ((Kept.refl (fun _ => False) wc).alloc _).drew
              have CP1 := hidden (CP1.out.same KA)
              have CP2 := hidden (CP2.out.same KA)
              have BH := hidden (blk_kept KA (fun h => h) BH.out)
              have zs := KC.out.size
              have KC := hidden (KC.out.trans KA)
              clear KA HS1
              change Hid ((wc.alloc (.cells #[.bool false, .slice x1 i d1, .slice none 0 0, .slice x2 (i + 1) d3] 25)).drew.heap[wc.heap.size]? = _) at Bg14
              generalize (wc.alloc (.cells #[.bool false, .slice x1 i d1, .slice none 0 0, .slice x2 (i + 1) d3] 25)).drew = X1 at *
              generalize wc.heap.size = g14 at *
              go_wp2
              have HS2 : Hid (∀ W, Same X1 W → (fun W : World => W.cell? ⟨h, 1, none⟩ = some (.slice q1 k1 f1) ∧ W.cell? ⟨h, 3, none⟩ = some (.slice q3 k3 f3)) W) := hidden (fun W kk => ⟨(blk_cell (blk_kept kk (fun h => h) BH.out)).trans rfl, (blk_cell (blk_kept kk (fun h => h) BH.out)).trans rfl⟩)
              refine wp_region_held_drew (S := (fun W : World => W.cell? ⟨h, 1, none⟩ = some (.slice q1 k1 f1) ∧ W.cell? ⟨h, 3, none⟩ = some (.slice q3 k3 f3))) hmx (HS2.out _ ((Kept.refl (fun _ => False) X1).drew)) (fun _ => ?_)
              refine wpAnyH_take (i := 0) (v := (.pointer (some ⟨h, 1, none⟩))) rfl (by kernel_rfl) (by kernel_rfl) (by kernel_rfl) (fun _ _ _ h => h) (Or.inl ⟨by rfl, (by intro w hSw; obtain ⟨j0, j1⟩ := hSw; go_simp; try (first | rfl | (rw [IntKind.wrap_i64]; omega)))⟩) (HS2.out _ ((Kept.refl (fun _ => False) X1).drew)) ?_; (try go_simp)
              refine wpAnyH_take (i := 1) (v := (.slice q1 k1 f1)) rfl (by kernel_rfl) (by kernel_rfl) (by kernel_rfl) (fun _ _ _ h => h) (Or.inl ⟨by rfl, (by intro w hSw; obtain ⟨j0, j1⟩ := hSw; go_simp; try (first | rfl | (rw [IntKind.wrap_i64]; omega)))⟩) (HS2.out _ ((Kept.refl (fun _ => False) X1).drew)) ?_; (try go_simp)
              refine wpAnyH_take (i := 2) (v := (.int .i64 i)) rfl (by kernel_rfl) (by kernel_rfl) (by kernel_rfl) (fun _ _ _ h => h) (Or.inl ⟨by rfl, (by intro w hSw; obtain ⟨j0, j1⟩ := hSw; go_simp; try (first | rfl | (rw [IntKind.wrap_i64]; omega)))⟩) (HS2.out _ ((Kept.refl (fun _ => False) X1).drew)) ?_; (try go_simp)
              refine wpAnyH_take (i := 3) (v := (.int .i64 ((i : Int) + 1))) rfl (by kernel_rfl) (by kernel_rfl) (by kernel_rfl) (fun _ _ _ h => h) (Or.inl ⟨by rfl, (by intro w hSw; obtain ⟨j0, j1⟩ := hSw; go_simp; try (first | rfl | (rw [IntKind.wrap_i64]; omega)))⟩) (HS2.out _ ((Kept.refl (fun _ => False) X1).drew)) ?_; (try go_simp)
              refine wpAnyH_take (i := 4) (v := (.slice y1 (k1 - (i + 1)) (f1 - (i + 1)))) rfl (by kernel_rfl) (by kernel_rfl) (by kernel_rfl) (fun _ _ _ h => h) (Or.inl ⟨by rfl, (by intro w hSw; obtain ⟨j0, j1⟩ := hSw; go_simp; try (first | rfl | (rw [IntKind.wrap_i64]; omega)))⟩) (HS2.out _ ((Kept.refl (fun _ => False) X1).drew)) ?_; (try go_simp)
              refine wpAnyH_take (i := 5) (v := (.pointer (some ⟨h, 3, none⟩))) rfl (by kernel_rfl) (by kernel_rfl) (by kernel_rfl) (fun _ _ _ h => h) (Or.inl ⟨by rfl, (by intro w hSw; obtain ⟨j0, j1⟩ := hSw; go_simp; try (first | rfl | (rw [IntKind.wrap_i64]; omega)))⟩) (HS2.out _ ((Kept.refl (fun _ => False) X1).drew)) ?_; (try go_simp)
              refine wpAnyH_take (i := 6) (v := (.slice q3 k3 f3)) rfl (by kernel_rfl) (by kernel_rfl) (by kernel_rfl) (fun _ _ _ h => h) (Or.inl ⟨by rfl, (by intro w hSw; obtain ⟨j0, j1⟩ := hSw; go_simp; try (first | rfl | (rw [IntKind.wrap_i64]; omega)))⟩) (HS2.out _ ((Kept.refl (fun _ => False) X1).drew)) ?_; (try go_simp)
              refine wpAnyH_take (i := 7) (v := (.int .i64 i)) rfl (by kernel_rfl) (by kernel_rfl) (by kernel_rfl) (fun _ _ _ h => h) (Or.inl ⟨by rfl, (by intro w hSw; obtain ⟨j0, j1⟩ := hSw; go_simp; try (first | rfl | (rw [IntKind.wrap_i64]; omega)))⟩) (HS2.out _ ((Kept.refl (fun _ => False) X1).drew)) ?_; (try go_simp)
              refine wpAnyH_take (i := 8) (v := (.int .i64 ((i : Int) + 1))) rfl (by kernel_rfl) (by kernel_rfl) (by kernel_rfl) (fun _ _ _ h => h) (Or.inl ⟨by rfl, (by intro w hSw; obtain ⟨j0, j1⟩ := hSw; go_simp; try (first | rfl | (rw [IntKind.wrap_i64]; omega)))⟩) (HS2.out _ ((Kept.refl (fun _ => False) X1).drew)) ?_; (try go_simp)
              refine wpAnyH_take (i := 9) (v := (.slice y2 (k3 - (i + 1)) (f3 - (i + 1)))) rfl (by kernel_rfl) (by kernel_rfl) (by kernel_rfl) (fun _ _ _ h => h) (Or.inl ⟨by rfl, (by intro w hSw; obtain ⟨j0, j1⟩ := hSw; go_simp; try (first | rfl | (rw [IntKind.wrap_i64]; omega)))⟩) (HS2.out _ ((Kept.refl (fun _ => False) X1).drew)) ?_; (try go_simp)
              refine wpAnyH_take (i := 10) (v := (.agg #[.bool false, .slice y1 (k1 - (i + 1)) (f1 - (i + 1)), .slice none 0 0, .slice y2 (k3 - (i + 1)) (f3 - (i + 1))])) rfl (by kernel_rfl) (by kernel_rfl) (by kernel_rfl) (fun _ _ _ h => h) (Or.inl ⟨by rfl, (by intro w hSw; obtain ⟨j0, j1⟩ := hSw; go_simp; try (first | rfl | (rw [IntKind.wrap_i64]; omega)))⟩) (HS2.out _ ((Kept.refl (fun _ => False) X1).drew)) ?_; (try go_simp)
              refine wpAnyH_ready (rs := [11]) (by kernel_rfl) (by simp) ?_
              refine (AllReadyH.cons rfl (fun K hK => ?_) AllReadyH.nil)
              go_simp
              refine hK.out _ _ (HS2.out _ (((Kept.refl (fun _ => False) X1).drew).alloc _)) (fun _ => ?_); clear hK K; (try go_simp)
              refine wpAnyH_ready (rs := [12]) (by kernel_rfl) (by simp) ?_
              refine (AllReadyH.cons rfl (fun K hK => ?_) AllReadyH.nil)
              go_simp
              refine hK.out _ _ (HS2.out _ (((Kept.refl (fun _ => False) X1).drew).alloc _)) (fun _ => ?_); clear hK K; (try go_simp)
              refine wpAnyH_done (by kernel_rfl) ?_ _
              have Bg15 := hidden (blk_new X1 (.cells #[.bool false, .slice y1 (k1 - (i + 1)) (f1 - (i + 1)), .slice none 0 0, .slice y2 (k3 - (i + 1)) (f3 - (i + 1))] 25))
              have KA : Same X1 (X1.alloc (.cells #[.bool false, .slice y1 (k1 - (i + 1)) (f1 - (i + 1)), .slice none 0 0, .slice y2 (k3 - (i + 1)) (f3 - (i + 1))] 25)).drew := ((Kept.refl (fun _ => False) X1).alloc _).drew
              have CP1 := hidden (CP1.out.same KA)
              have CP2 := hidden (CP2.out.same KA)
              have BH := hidden (blk_kept KA (fun h => h) BH.out)
              have Bg14 := hidden (blk_kept KA (fun h => h) Bg14.out)
              have zs := KC.out.size
              have KC := hidden (KC.out.trans KA)
              clear KA HS2
              change Hid ((X1.alloc (.cells #[.bool false, .slice y1 (k1 - (i + 1)) (f1 - (i + 1)), .slice none 0 0, .slice y2 (k3 - (i + 1)) (f3 - (i + 1))] 25)).drew.heap[X1.heap.size]? = _) at Bg15
              generalize (X1.alloc (.cells #[.bool false, .slice y1 (k1 - (i + 1)) (f1 - (i + 1)), .slice none 0 0, .slice y2 (k3 - (i + 1)) (f3 - (i + 1))] 25)).drew = X2 at *
              generalize X1.heap.size = g15 at *
              go_wp2
              have hck2 := K0.out.cell (fun h => h) HCK.out
              have bxX := blk_kept KC.out (fun h => h) BX.out
              have hck3 := KC.out.cell (fun h => h) hck2
              have HS3 : Hid (∀ W, Kept (fun k => k = w.heap.size + 1 ∨ k = w.heap.size + 2) X2 W → (fun W : World => W.cell? ⟨g14, 0, none⟩ = some (.bool false) ∧ W.cell? ⟨g14, 1, none⟩ = some (.slice x1 i d1) ∧ W.cell? ⟨g14, 2, none⟩ = some (.slice none 0 0) ∧ W.cell? ⟨g14, 3, none⟩ = some (.slice x2 (i + 1) d3) ∧ W.cell? ⟨g15, 0, none⟩ = some (.bool false) ∧ W.cell? ⟨g15, 1, none⟩ = some (.slice y1 (k1 - (i + 1)) (f1 - (i + 1))) ∧ W.cell? ⟨g15, 2, none⟩ = some (.slice none 0 0) ∧ W.cell? ⟨g15, 3, none⟩ = some (.slice y2 (k3 - (i + 1)) (f3 - (i + 1))) ∧ W.cell? ⟨w.heap.size, 1, none⟩ = some (.slice (some ⟨bk, off, none⟩) k1 c1) ∧ W.cell? ⟨bk, off + i, none⟩ = some (.string kx)) W) := hidden (fun W kk => ⟨(blk_cell (blk_kept kk (fun h => by omega) Bg14.out)).trans rfl, (blk_cell (blk_kept kk (fun h => by omega) Bg14.out)).trans rfl, (blk_cell (blk_kept kk (fun h => by omega) Bg14.out)).trans rfl, (blk_cell (blk_kept kk (fun h => by omega) Bg14.out)).trans rfl, (blk_cell (blk_kept kk (fun h => by omega) Bg15.out)).trans rfl, (blk_cell (blk_kept kk (fun h => by omega) Bg15.out)).trans rfl, (blk_cell (blk_kept kk (fun h => by omega) Bg15.out)).trans rfl, (blk_cell (blk_kept kk (fun h => by omega) Bg15.out)).trans rfl, (blk_cell (blk_kept kk (fun h => by omega) bxX)).trans rfl, kk.cell (fun h => by change bk = _ ∨ bk = _ at h; omega) hck3⟩)
              clear hck2 hck3 bxX
              have HW : Hid (∀ W, Same X2 W → Kept (fun k => k = w.heap.size + 1 ∨ k = w.heap.size + 2) X2 W) := hidden (fun W k => k.mono (fun i _ h => False.elim h))
              have BY4 := hidden (blk_kept KC.out.drew (fun h => h) BY.out)
              have BZ4 := hidden (blk_kept KC.out.drew (fun h => h) BZ.out)
              refine wp_region_held_drew (S := (fun W : World => W.cell? ⟨g14, 0, none⟩ = some (.bool false) ∧ W.cell? ⟨g14, 1, none⟩ = some (.slice x1 i d1) ∧ W.cell? ⟨g14, 2, none⟩ = some (.slice none 0 0) ∧ W.cell? ⟨g14, 3, none⟩ = some (.slice x2 (i + 1) d3) ∧ W.cell? ⟨g15, 0, none⟩ = some (.bool false) ∧ W.cell? ⟨g15, 1, none⟩ = some (.slice y1 (k1 - (i + 1)) (f1 - (i + 1))) ∧ W.cell? ⟨g15, 2, none⟩ = some (.slice none 0 0) ∧ W.cell? ⟨g15, 3, none⟩ = some (.slice y2 (k3 - (i + 1)) (f3 - (i + 1))) ∧ W.cell? ⟨w.heap.size, 1, none⟩ = some (.slice (some ⟨bk, off, none⟩) k1 c1) ∧ W.cell? ⟨bk, off + i, none⟩ = some (.string kx))) hmx (HS3.out _ (HW.out _ (Kept.refl _ X2).drew)) (fun _ => ?_)
              refine wpAnyH_take (i := 0) (v := (.agg #[.bool false, .slice x1 i d1, .slice none 0 0, .slice x2 (i + 1) d3])) rfl (by kernel_rfl) (by kernel_rfl) (by kernel_rfl) (fun _ _ _ h => h) (Or.inl ⟨by rfl, (by intro w hSw; obtain ⟨j0, j1, j2, j3, j4, j5, j6, j7, j8, j9⟩ := hSw; go_simp; try (first | rfl | (rw [IntKind.wrap_i64]; omega)))⟩) (HS3.out _ (HW.out _ (Kept.refl _ X2).drew)) ?_; (try go_simp)
              refine wpAnyH_take (i := 1) (v := (.pointer (some ⟨w.heap.size, 1, none⟩))) rfl (by kernel_rfl) (by kernel_rfl) (by kernel_rfl) (fun _ _ _ h => h) (Or.inl ⟨by rfl, (by intro w hSw; obtain ⟨j0, j1, j2, j3, j4, j5, j6, j7, j8, j9⟩ := hSw; go_simp; try (first | rfl | (rw [IntKind.wrap_i64]; omega)))⟩) (HS3.out _ (HW.out _ (Kept.refl _ X2).drew)) ?_; (try go_simp)
              refine wpAnyH_take (i := 2) (v := (.slice (some ⟨bk, off, none⟩) k1 c1)) rfl (by kernel_rfl) (by kernel_rfl) (by kernel_rfl) (fun _ _ _ h => h) (Or.inl ⟨by rfl, (by intro w hSw; obtain ⟨j0, j1, j2, j3, j4, j5, j6, j7, j8, j9⟩ := hSw; go_simp; try (first | rfl | (rw [IntKind.wrap_i64]; omega)))⟩) (HS3.out _ (HW.out _ (Kept.refl _ X2).drew)) ?_; (try go_simp)
              refine wpAnyH_take (i := 3) (v := (.int .i64 i)) rfl (by kernel_rfl) (by kernel_rfl) (by kernel_rfl) (fun _ _ _ h => h) (Or.inl ⟨by rfl, (by intro w hSw; obtain ⟨j0, j1, j2, j3, j4, j5, j6, j7, j8, j9⟩ := hSw; go_simp; try (first | rfl | (rw [IntKind.wrap_i64]; omega)))⟩) (HS3.out _ (HW.out _ (Kept.refl _ X2).drew)) ?_; (try go_simp)
              refine wpAnyH_take (i := 4) (v := (.pointer (some ⟨bk, off + i, none⟩))) rfl (by kernel_rfl) (by kernel_rfl) (by kernel_rfl) (fun _ _ _ h => h) (Or.inl ⟨by rfl, (by intro w hSw; obtain ⟨j0, j1, j2, j3, j4, j5, j6, j7, j8, j9⟩ := hSw; go_simp; try (first | rfl | (rw [IntKind.wrap_i64]; omega)))⟩) (HS3.out _ (HW.out _ (Kept.refl _ X2).drew)) ?_; (try go_simp)
              refine wpAnyH_take (i := 5) (v := (.string kx)) rfl (by kernel_rfl) (by kernel_rfl) (by kernel_rfl) (fun _ _ _ h => h) (Or.inl ⟨by rfl, (by intro w hSw; obtain ⟨j0, j1, j2, j3, j4, j5, j6, j7, j8, j9⟩ := hSw; go_simp; try (first | rfl | (rw [IntKind.wrap_i64]; omega)))⟩) (HS3.out _ (HW.out _ (Kept.refl _ X2).drew)) ?_; (try go_simp)
              refine wpAnyH_take (i := 6) (v := (.agg #[.bool false, .slice y1 (k1 - (i + 1)) (f1 - (i + 1)), .slice none 0 0, .slice y2 (k3 - (i + 1)) (f3 - (i + 1))])) rfl (by kernel_rfl) (by kernel_rfl) (by kernel_rfl) (fun _ _ _ h => h) (Or.inl ⟨by rfl, (by intro w hSw; obtain ⟨j0, j1, j2, j3, j4, j5, j6, j7, j8, j9⟩ := hSw; go_simp; try (first | rfl | (rw [IntKind.wrap_i64]; omega)))⟩) (HS3.out _ (HW.out _ (Kept.refl _ X2).drew)) ?_; (try go_simp)
              have CP1 := hidden (CP1.out.same ((Kept.refl (fun _ => False) X2).drew))
              have CP2 := hidden (CP2.out.same ((Kept.refl (fun _ => False) X2).drew))
              have KD := hidden (KC.out.drew)
              have KR := hidden (Kept.refl (fun _ => False) X2).drew
              generalize X2.drew = X3 at *
              have e0 := blk_cell (j := 0) BY4.out; have e1 := blk_cell (j := 1) BY4.out; have e2 := blk_cell (j := 2) BY4.out; have e3 := blk_cell (j := 3) BY4.out; simp at e0 e1 e2 e3
              have b0 := blk_cell (j := 0) BZ4.out; have b1 := blk_cell (j := 1) BZ4.out; have b2 := blk_cell (j := 2) BZ4.out; have b3 := blk_cell (j := 3) BZ4.out; simp at b0 b1 b2 b3
              have ef := (fun j => blk_free (j := j) BY4.out)
              have bf := (fun j => blk_free (j := j) BZ4.out)
              refine wpAnyH_ready (rs := [7]) (by kernel_rfl) (by simp) ?_
              refine (AllReadyH.cons rfl (fun K hK => ?_) AllReadyH.nil)
              go_simp
              refine hK.out _ _ (HS3.out _ ((HW.out _ KR.out).put4 (g := w.heap.size + 1) (.inl rfl) _ _ _ _)) (fun _ => ?_); clear hK K; (try go_simp)
              refine wpAnyH_ready (rs := [8]) (by kernel_rfl) (by simp) ?_
              refine (AllReadyH.cons rfl (fun K hK => ?_) AllReadyH.nil)
              go_simp
              refine hK.out _ _ (HS3.out _ ((HW.out _ KR.out).put4 (g := w.heap.size + 1) (.inl rfl) _ _ _ _)) (fun _ => ?_); clear hK K; (try go_simp)
              refine wpAnyH_ready (rs := [9]) (by kernel_rfl) (by simp) ?_
              refine (AllReadyH.cons rfl (fun K hK => ?_) AllReadyH.nil)
              go_simp
              refine hK.out _ _ (HS3.out _ (((HW.out _ KR.out).put4 (g := w.heap.size + 1) (.inl rfl) _ _ _ _).put4 (g := w.heap.size + 2) (.inr rfl) _ _ _ _)) (fun _ => ?_); clear hK K; (try go_simp)
              refine wpAnyH_ready (rs := [10]) (by kernel_rfl) (by simp) ?_
              refine (AllReadyH.cons rfl (fun K hK => ?_) AllReadyH.nil)
              go_simp
              refine hK.out _ _ (HS3.out _ (((HW.out _ KR.out).put4 (g := w.heap.size + 1) (.inl rfl) _ _ _ _).put4 (g := w.heap.size + 2) (.inr rfl) _ _ _ _)) (fun _ => ?_); clear hK K; (try go_simp)
              refine wpAnyH_done (by kernel_rfl) ?_ _
              have kf := kept_fill8 (W := X3) (g := w.heap.size + 1) (h := w.heap.size + 2) (.bool false) (.slice x1 i d1) (.slice none 0 0) (.slice x2 (i + 1) d3) (.bool false) (.slice y1 (k1 - (i + 1)) (f1 - (i + 1))) (.slice none 0 0) (.slice y2 (k3 - (i + 1)) (f3 - (i + 1)))
              have hf := fill8 BY4.out BZ4.out (by omega) (.bool false) (.slice x1 i d1) (.slice none 0 0) (.slice x2 (i + 1) d3) (.bool false) (.slice y1 (k1 - (i + 1)) (f1 - (i + 1))) (.slice none 0 0) (.slice y2 (k3 - (i + 1)) (f3 - (i + 1)))
              have kfin := hidden (show Same w _ from (K0.out.trans KD.out).trans' kf (fun i hi hs => by omega))
              have F1 := hidden (CP1.out.kept kf BY4.out BZ4.out)
              have F2 := hidden (CP2.out.kept kf BY4.out BZ4.out)
              clear kf e0 e1 e2 e3 b0 b1 b2 b3 ef bf HS3 HW
              generalize ((((((((X3.setCell ⟨w.heap.size + 1, 0, none⟩ (.bool false)).setCell ⟨w.heap.size + 1, 1, none⟩ (.slice x1 i d1)).setCell ⟨w.heap.size + 1, 2, none⟩ (.slice none 0 0)).setCell ⟨w.heap.size + 1, 3, none⟩ (.slice x2 (i + 1) d3)).setCell ⟨w.heap.size + 2, 0, none⟩ (.bool false)).setCell ⟨w.heap.size + 2, 1, none⟩ (.slice y1 (k1 - (i + 1)) (f1 - (i + 1)))).setCell ⟨w.heap.size + 2, 2, none⟩ (.slice none 0 0)).setCell ⟨w.heap.size + 2, 3, none⟩ (.slice y2 (k3 - (i + 1)) (f3 - (i + 1)))) = WF at *
              have v0 := blk_cell (j := 0) hf.1; have v1 := blk_cell (j := 1) hf.1; have v2 := blk_cell (j := 2) hf.1; have v3 := blk_cell (j := 3) hf.1; simp at v0 v1 v2 v3
              have o0 := blk_cell (j := 0) hf.2; have o1 := blk_cell (j := 1) hf.2; have o2 := blk_cell (j := 2) hf.2; have o3 := blk_cell (j := 3) hf.2; simp at o0 o1 o2 o3
              go_wp2
              refine bodyPost_ret (v := .tuple #[.agg #[.bool false, .slice x1 i d1, .slice none 0 0, .slice x2 (i + 1) d3], .string kx, .agg #[.bool false, .slice y1 (k1 - (i + 1)) (f1 - (i + 1)), .slice none 0 0, .slice y2 (k3 - (i + 1)) (f3 - (i + 1))], .int .i64 0]) (by simp [results, Tryd.results28, go_sem, v0, v1, v2, v3, o0, o1, o2, o3]) rfl ⟨_, rfl, ⟨_, _, rfl, ?_, ?_, kfin.out⟩⟩
              · skip
                have h1 := (Row.own F1.out.r1).partS (lo := 0) (hi := i) (by omega) (by omega)
                have h2 := (Row.own F1.out.r3).partI (lo := 0) (hi := i + 1) (by omega) (by have := HKK.out; omega)
                rw [HX1.out] at h1
                rw [HX2.out] at h2
                unfold Nd.sub
                rw [HL.out]
                simp only [Nat.sub_zero] at h1 h2 ⊢
                exact NdR.mk' h1 (Row.nil _) h2
              · skip
                have h1 := (Row.own F2.out.r1).partS (lo := i + 1) (hi := k1) (by omega) (by omega)
                have h2 := (Row.own F2.out.r3).partI (lo := i + 1) (hi := k3) (by have := HKK.out; omega) (by omega)
                rw [HY1.out] at h1
                rw [HY2.out] at h2
                unfold Nd.sub
                rw [HL.out, E1.out]
                rw [show ((n.kids.drop (i + 1)).take (k3 - (i + 1))) = (n.kids.drop (i + 1)).take (k1 + 1 - (i + 1)) by rw [HKK.out]] at h2
                exact NdR.mk' h1 (Row.nil _) h2
          · skip
            clear hq1 hq2 hqi
            go_wp2
            go_cut [12, 13] from 68 to 71 (fun x y wx => Two n false k1 k2 k3 WA x y wx)
            case first =>
              have hmx : Tryd.prog.follows .mixedOrders = true := by kernel_rfl
              have KW := hidden S3.out.drew
              refine wp_region_held_drew (S := (fun W : World => W.cell? ⟨w.heap.size, 0, none⟩ = some (.bool false) ∧ W.cell? ⟨w.heap.size, 1, none⟩ = some (.slice (some ⟨bk, off, none⟩) k1 c1) ∧ W.cell? ⟨w.heap.size, 2, none⟩ = some (.slice a2 k2 c2) ∧ W.cell? ⟨w.heap.size, 3, none⟩ = some (.slice a3 k3 c3))) hmx (BXW.out _ S3.out.drew) (fun _ => ?_)
              refine wpAnyH_take (i := 0) (v := (.agg #[.bool false, .slice (some ⟨bk, off, none⟩) k1 c1, .slice a2 k2 c2, .slice a3 k3 c3])) rfl (by kernel_rfl) (by kernel_rfl) (by kernel_rfl) (fun _ _ _ h => h) (Or.inl ⟨by rfl, (by intro w hSw; obtain ⟨t0, t1, t2, t3⟩ := hSw; go_simp; try rfl)⟩) (BXW.out _ (S3.out.drew)) ?_; (try go_simp)
              refine wpAnyH_take (i := 2) (v := (.agg #[.bool false, .slice (some ⟨bk, off, none⟩) k1 c1, .slice a2 k2 c2, .slice a3 k3 c3])) rfl (by kernel_rfl) (by kernel_rfl) (by kernel_rfl) (fun _ _ _ h => h) (Or.inl ⟨by rfl, (by intro w hSw; obtain ⟨t0, t1, t2, t3⟩ := hSw; go_simp; try rfl)⟩) (BXW.out _ (S3.out.drew)) ?_; (try go_simp)
              generalize wr.drew = V0 at *
              refine wpAnyH_ready (rs := [1, 4, 5]) (by kernel_rfl) (by simp) ?_
              refine (AllReadyH.cons rfl (fun K hK => ?_) (AllReadyH.cons rfl (fun K hK => ?_) (AllReadyH.cons rfl (fun K hK => ?_) AllReadyH.nil)))
              · skip
                refine step_call rfl 8 #[.agg #[.bool false, .slice (some ⟨bk, off, none⟩) k1 c1, .slice a2 k2 c2, .slice a3 k3 c3]] (fun u W => CpR n k1 k2 k3 _ u W) (by go_simp; try rfl) (HCq.out _ (K0.out.trans KW.out)) ?_
                rintro u V1 hu
                obtain ⟨p1, p2, p3, d1, d2, d3, rfl, cp, kk⟩ := hu.ex
                rw [HL.out]
                have H1 := hidden cp
                have KW := hidden (KW.out.trans kk)
                clear hu cp kk
                refine hK.out _ _ (BXW.out _ (KW.out)) (fun _ => ?_); clear hK K; (try go_simp)
                refine wpAnyH_ready (rs := [3, 4, 5]) (by kernel_rfl) (by simp) ?_
                refine (AllReadyH.cons rfl (fun K hK => ?_) (AllReadyH.cons rfl (fun K hK => ?_) (AllReadyH.cons rfl (fun K hK => ?_) AllReadyH.nil)))
                · skip
                  refine step_call rfl 8 #[.agg #[.bool false, .slice (some ⟨bk, off, none⟩) k1 c1, .slice a2 k2 c2, .slice a3 k3 c3]] (fun u W => CpR n k1 k2 k3 _ u W) (by go_simp; try rfl) (HCq.out _ (K0.out.trans KW.out)) ?_
                  rintro u V2 hu
                  obtain ⟨q1, q2, q3, f1, f2, f3, rfl, cp, kk⟩ := hu.ex
                  rw [HL.out]
                  have H3 := hidden cp
                  have H1 := hidden (H1.out.same kk)
                  have KW := hidden (KW.out.trans kk)
                  clear hu cp kk
                  refine hK.out _ _ (BXW.out _ (KW.out)) (fun _ => ?_); clear hK K; (try go_simp)
                  refine wpAnyH_ready (rs := [4, 5]) (by kernel_rfl) (by simp) ?_
                  refine (AllReadyH.cons rfl (fun K hK => ?_) (AllReadyH.cons rfl (fun K hK => ?_) AllReadyH.nil))
                  · skip
                    go_simp
                    refine hK.out _ _ (BXW.out _ (KW.out.alloc _)) (fun _ => ?_); clear hK K; (try go_simp)
                    have G4 := hidden (blk_new V2 (.cells #[.bool false, .slice none 0 0, .slice none 0 0, .slice none 0 0] 25))
                    have KA := same_alloc V2 (.cells #[.bool false, .slice none 0 0, .slice none 0 0, .slice none 0 0] 25)
                    have H1 := hidden (H1.out.same KA)
                    have H3 := hidden (H3.out.same KA)
                    have zg4 := KW.out.size
                    have KW := hidden (KW.out.alloc (.cells #[.bool false, .slice none 0 0, .slice none 0 0, .slice none 0 0] 25))
                    clear KA
                    generalize V2.heap.size = g4 at *
                    generalize V2.alloc (.cells #[.bool false, .slice none 0 0, .slice none 0 0, .slice none 0 0] 25) = V3 at *
                    refine wpAnyH_ready (rs := [5]) (by kernel_rfl) (by simp) ?_
                    refine (AllReadyH.cons rfl (fun K hK => ?_) AllReadyH.nil)
                    · skip
                      go_simp
                      refine hK.out _ _ (BXW.out _ (KW.out.alloc _)) (fun _ => ?_); clear hK K; (try go_simp)
                      have G5 := hidden (blk_new V3 (.cells #[.bool false, .slice none 0 0, .slice none 0 0, .slice none 0 0] 25))
                      have KA := same_alloc V3 (.cells #[.bool false, .slice none 0 0, .slice none 0 0, .slice none 0 0] 25)
                      have H1 := hidden (H1.out.same KA)
                      have H3 := hidden (H3.out.same KA)
                      have lG4 := blk_lt G4.out
                      have G4 := hidden (blk_kept KA (fun h => h) G4.out)
                      have zg5 := KW.out.size
                      have KW := hidden (KW.out.alloc (.cells #[.bool false, .slice none 0 0, .slice none 0 0, .slice none 0 0] 25))
                      clear KA
                      generalize V3.heap.size = g5 at *
                      generalize V3.alloc (.cells #[.bool false, .slice none 0 0, .slice none 0 0, .slice none 0 0] 25) = V4 at *
                      have hne : g4 ≠ g5 := by omega
                      have c40 := blk_cell (j := 0) G4.out; have c41 := blk_cell (j := 1) G4.out; have c42 := blk_cell (j := 2) G4.out; have c43 := blk_cell (j := 3) G4.out; simp at c40 c41 c42 c43
                      have cf4 := (fun j => blk_free (j := j) G4.out)
                      have c50 := blk_cell (j := 0) G5.out; have c51 := blk_cell (j := 1) G5.out; have c52 := blk_cell (j := 2) G5.out; have c53 := blk_cell (j := 3) G5.out; simp at c50 c51 c52 c53
                      have cf5 := (fun j => blk_free (j := j) G5.out)
                      refine wpAnyH_ready (rs := [6]) (by kernel_rfl) (by simp) ?_
                      refine (AllReadyH.cons rfl (fun K hK => ?_) AllReadyH.nil)
                      go_simp
                      refine hK.out _ _ (BXW.out _ (same_fill4 KW.out (g := g4) (by omega) _ _ _ _)) (fun _ => ?_); clear hK K; (try go_simp)
                      refine wpAnyH_ready (rs := [7]) (by kernel_rfl) (by simp) ?_
                      refine (AllReadyH.cons rfl (fun K hK => ?_) AllReadyH.nil)
                      go_simp
                      refine hK.out _ _ (BXW.out _ (same_fill4 (same_fill4 KW.out (g := g4) (by omega) _ _ _ _) (g := g5) (by omega) _ _ _ _)) (fun _ => ?_); clear hK K; (try go_simp)
                      refine wpAnyH_done (by kernel_rfl) ?_ _
                      have kf := kept_fill8 (W := V4) (g := g4) (h := g5) (.bool false) (.slice p1 k1 d1) (.slice p2 k2 d2) (.slice p3 k3 d3) (.bool false) (.slice q1 k1 f1) (.slice q2 k2 f2) (.slice q3 k3 f3)
                      have hf := fill8 G4.out G5.out hne (.bool false) (.slice p1 k1 d1) (.slice p2 k2 d2) (.slice p3 k3 d3) (.bool false) (.slice q1 k1 f1) (.slice q2 k2 f2) (.slice q3 k3 f3)
                      have hT2 := hidden (show Two n false k1 k2 k3 WA (.pointer (some ⟨g4, 0, none⟩)) (.pointer (some ⟨g5, 0, none⟩)) _ from ⟨g4, g5, p1, p2, p3, d1, d2, d3, q1, q2, q3, f1, f2, f3, rfl, rfl, by omega, by omega, hf.1, hf.2, H1.out.kept kf G4.out G5.out, H3.out.kept kf G4.out G5.out, KW.out.trans' kf (fun i hi hs => by omega)⟩)
                      clear kf hf c40 c41 c42 c43 c50 c51 c52 c53 cf4 cf5
                      generalize ((((((((V4.setCell ⟨g4, 0, none⟩ (.bool false)).setCell ⟨g4, 1, none⟩ (.slice p1 k1 d1)).setCell ⟨g4, 2, none⟩ (.slice p2 k2 d2)).setCell ⟨g4, 3, none⟩ (.slice p3 k3 d3)).setCell ⟨g5, 0, none⟩ (.bool false)).setCell ⟨g5, 1, none⟩ (.slice q1 k1 f1)).setCell ⟨g5, 2, none⟩ (.slice q2 k2 f2)).setCell ⟨g5, 3, none⟩ (.slice q3 k3 f3)) = WX at *
                      go_wp2_with fail
                      go_meet
                      case rel => exact hT2.out
                  · skip
                    go_simp
                    refine hK.out _ _ (BXW.out _ (KW.out.alloc _)) (fun _ => ?_); clear hK K; (try go_simp)
                    have G5 := hidden (blk_new V2 (.cells #[.bool false, .slice none 0 0, .slice none 0 0, .slice none 0 0] 25))
                    have KA := same_alloc V2 (.cells #[.bool false, .slice none 0 0, .slice none 0 0, .slice none 0 0] 25)
                    have H1 := hidden (H1.out.same KA)
                    have H3 := hidden (H3.out.same KA)
                    have zg5 := KW.out.size
                    have KW := hidden (KW.out.alloc (.cells #[.bool false, .slice none 0 0, .slice none 0 0, .slice none 0 0] 25))
                    clear KA
                    generalize V2.heap.size = g5 at *
                    generalize V2.alloc (.cells #[.bool false, .slice none 0 0, .slice none 0 0, .slice none 0 0] 25) = V3 at *
                    refine wpAnyH_ready (rs := [4]) (by kernel_rfl) (by simp) ?_
                    refine (AllReadyH.cons rfl (fun K hK => ?_) AllReadyH.nil)
                    · skip
                      go_simp
                      refine hK.out _ _ (BXW.out _ (KW.out.alloc _)) (fun _ => ?_); clear hK K; (try go_simp)
                      have G4 := hidden (blk_new V3 (.cells #[.bool false, .slice none 0 0, .slice none 0 0, .slice none 0 0] 25))
                      have KA := same_alloc V3 (.cells #[.bool false, .slice none 0 0, .slice none 0 0, .slice none 0 0] 25)
                      have H1 := hidden (H1.out.same KA)
                      have H3 := hidden (H3.out.same KA)
                      have lG5 := blk_lt G5.out
                      have G5 := hidden (blk_kept KA (fun h => h) G5.out)
                      have zg4 := KW.out.size
                      have KW := hidden (KW.out.alloc (.cells #[.bool false, .slice none 0 0, .slice none 0 0, .slice none 0 0] 25))
                      clear KA
                      generalize V3.heap.size = g4 at *
                      generalize V3.alloc (.cells #[.bool false, .slice none 0 0, .slice none 0 0, .slice none 0 0] 25) = V4 at *
                      have hne : g4 ≠ g5 := by omega
                      have c40 := blk_cell (j := 0) G4.out; have c41 := blk_cell (j := 1) G4.out; have c42 := blk_cell (j := 2) G4.out; have c43 := blk_cell (j := 3) G4.out; simp at c40 c41 c42 c43
                      have cf4 := (fun j => blk_free (j := j) G4.out)
                      have c50 := blk_cell (j := 0) G5.out; have c51 := blk_cell (j := 1) G5.out; have c52 := blk_cell (j := 2) G5.out; have c53 := blk_cell (j := 3) G5.out; simp at c50 c51 c52 c53
                      have cf5 := (fun j => blk_free (j := j) G5.out)
                      refine wpAnyH_ready (rs := [6]) (by kernel_rfl) (by simp) ?_
                      refine (AllReadyH.cons rfl (fun K hK => ?_) AllReadyH.nil)
                      go_simp
                      refine hK.out _ _ (BXW.out _ (same_fill4 KW.out (g := g4) (by omega) _ _ _ _)) (fun _ => ?_); clear hK K; (try go_simp)
                      refine wpAnyH_ready (rs := [7]) (by kernel_rfl) (by simp) ?_
                      refine (AllReadyH.cons rfl (fun K hK => ?_) AllReadyH.nil)
                      go_simp
                      refine hK.out _ _ (BXW.out _ (same_fill4 (same_fill4 KW.out (g := g4) (by omega) _ _ _ _) (g := g5) (by omega) _ _ _ _)) (fun _ => ?_); clear hK K; (try go_simp)
                      refine wpAnyH_done (by kernel_rfl) ?_ _
                      have kf := kept_fill8 (W := V4) (g := g4) (h := g5) (.bool false) (.slice p1 k1 d1) (.slice p2 k2 d2) (.slice p3 k3 d3) (.bool false) (.slice q1 k1 f1) (.slice q2 k2 f2) (.slice q3 k3 f3)
                      have hf := fill8 G4.out G5.out hne (.bool false) (.slice p1 k1 d1) (.slice p2 k2 d2) (.slice p3 k3 d3) (.bool false) (.slice q1 k1 f1) (.slice q2 k2 f2) (.slice q3 k3 f3)
                      have hT2 := hidden (show Two n false k1 k2 k3 WA (.pointer (some ⟨g4, 0, none⟩)) (.pointer (some ⟨g5, 0, none⟩)) _ from ⟨g4, g5, p1, p2, p3, d1, d2, d3, q1, q2, q3, f1, f2, f3, rfl, rfl, by omega, by omega, hf.1, hf.2, H1.out.kept kf G4.out G5.out, H3.out.kept kf G4.out G5.out, KW.out.trans' kf (fun i hi hs => by omega)⟩)
                      clear kf hf c40 c41 c42 c43 c50 c51 c52 c53 cf4 cf5
                      generalize ((((((((V4.setCell ⟨g4, 0, none⟩ (.bool false)).setCell ⟨g4, 1, none⟩ (.slice p1 k1 d1)).setCell ⟨g4, 2, none⟩ (.slice p2 k2 d2)).setCell ⟨g4, 3, none⟩ (.slice p3 k3 d3)).setCell ⟨g5, 0, none⟩ (.bool false)).setCell ⟨g5, 1, none⟩ (.slice q1 k1 f1)).setCell ⟨g5, 2, none⟩ (.slice q2 k2 f2)).setCell ⟨g5, 3, none⟩ (.slice q3 k3 f3)) = WX at *
                      go_wp2_with fail
                      go_meet
                      case rel => exact hT2.out
                · skip
                  go_simp
                  refine hK.out _ _ (BXW.out _ (KW.out.alloc _)) (fun _ => ?_); clear hK K; (try go_simp)
                  have G4 := hidden (blk_new V1 (.cells #[.bool false, .slice none 0 0, .slice none 0 0, .slice none 0 0] 25))
                  have KA := same_alloc V1 (.cells #[.bool false, .slice none 0 0, .slice none 0 0, .slice none 0 0] 25)
                  have H1 := hidden (H1.out.same KA)
                  have zg4 := KW.out.size
                  have KW := hidden (KW.out.alloc (.cells #[.bool false, .slice none 0 0, .slice none 0 0, .slice none 0 0] 25))
                  clear KA
                  generalize V1.heap.size = g4 at *
                  generalize V1.alloc (.cells #[.bool false, .slice none 0 0, .slice none 0 0, .slice none 0 0] 25) = V2 at *
                  refine wpAnyH_ready (rs := [3, 5]) (by kernel_rfl) (by simp) ?_
                  refine (AllReadyH.cons rfl (fun K hK => ?_) (AllReadyH.cons rfl (fun K hK => ?_) AllReadyH.nil))
                  · skip
                    refine step_call rfl 8 #[.agg #[.bool false, .slice (some ⟨bk, off, none⟩) k1 c1, .slice a2 k2 c2, .slice a3 k3 c3]] (fun u W => CpR n k1 k2 k3 _ u W) (by go_simp; try rfl) (HCq.out _ (K0.out.trans KW.out)) ?_
                    rintro u V3 hu
                    obtain ⟨q1, q2, q3, f1, f2, f3, rfl, cp, kk⟩ := hu.ex
                    rw [HL.out]
                    have H3 := hidden cp
                    have H1 := hidden (H1.out.same kk)
                    have G4 := hidden (blk_kept kk (fun h => h) G4.out)
                    have KW := hidden (KW.out.trans kk)
                    clear hu cp kk
                    refine hK.out _ _ (BXW.out _ (KW.out)) (fun _ => ?_); clear hK K; (try go_simp)
                    refine wpAnyH_ready (rs := [5]) (by kernel_rfl) (by simp) ?_
                    refine (AllReadyH.cons rfl (fun K hK => ?_) AllReadyH.nil)
                    · skip
                      go_simp
                      refine hK.out _ _ (BXW.out _ (KW.out.alloc _)) (fun _ => ?_); clear hK K; (try go_simp)
                      have G5 := hidden (blk_new V3 (.cells #[.bool false, .slice none 0 0, .slice none 0 0, .slice none 0 0] 25))
                      have KA := same_alloc V3 (.cells #[.bool false, .slice none 0 0, .slice none 0 0, .slice none 0 0] 25)
                      have H1 := hidden (H1.out.same KA)
                      have lG4 := blk_lt G4.out
                      have G4 := hidden (blk_kept KA (fun h => h) G4.out)
                      have H3 := hidden (H3.out.same KA)
                      have zg5 := KW.out.size
                      have KW := hidden (KW.out.alloc (.cells #[.bool false, .slice none 0 0, .slice none 0 0, .slice none 0 0] 25))
                      clear KA
                      generalize V3.heap.size = g5 at *
                      generalize V3.alloc (.cells #[.bool false, .slice none 0 0, .slice none 0 0, .slice none 0 0] 25) = V4 at *
                      have hne : g4 ≠ g5 := by omega
                      have c40 := blk_cell (j := 0) G4.out; have c41 := blk_cell (j := 1) G4.out; have c42 := blk_cell (j := 2) G4.out; have c43 := blk_cell (j := 3) G4.out; simp at c40 c41 c42 c43
                      have cf4 := (fun j => blk_free (j := j) G4.out)
                      have c50 := blk_cell (j := 0) G5.out; have c51 := blk_cell (j := 1) G5.out; have c52 := blk_cell (j := 2) G5.out; have c53 := blk_cell (j := 3) G5.out; simp at c50 c51 c52 c53
                      have cf5 := (fun j => blk_free (j := j) G5.out)
                      refine wpAnyH_ready (rs := [6]) (by kernel_rfl) (by simp) ?_
                      refine (AllReadyH.cons rfl (fun K hK => ?_) AllReadyH.nil)
                      go_simp
                      refine hK.out _ _ (BXW.out _ (same_fill4 KW.out (g := g4) (by omega) _ _ _ _)) (fun _ => ?_); clear hK K; (try go_simp)
                      refine wpAnyH_ready (rs := [7]) (by kernel_rfl) (by simp) ?_
                      refine (AllReadyH.cons rfl (fun K hK => ?_) AllReadyH.nil)
                      go_simp
                      refine hK.out _ _ (BXW.out _ (same_fill4 (same_fill4 KW.out (g := g4) (by omega) _ _ _ _) (g := g5) (by omega) _ _ _ _)) (fun _ => ?_); clear hK K; (try go_simp)
                      refine wpAnyH_done (by kernel_rfl) ?_ _
                      have kf := kept_fill8 (W := V4) (g := g4) (h := g5) (.bool false) (.slice p1 k1 d1) (.slice p2 k2 d2) (.slice p3 k3 d3) (.bool false) (.slice q1 k1 f1) (.slice q2 k2 f2) (.slice q3 k3 f3)
                      have hf := fill8 G4.out G5.out hne (.bool false) (.slice p1 k1 d1) (.slice p2 k2 d2) (.slice p3 k3 d3) (.bool false) (.slice q1 k1 f1) (.slice q2 k2 f2) (.slice q3 k3 f3)
                      have hT2 := hidden (show Two n false k1 k2 k3 WA (.pointer (some ⟨g4, 0, none⟩)) (.pointer (some ⟨g5, 0, none⟩)) _ from ⟨g4, g5, p1, p2, p3, d1, d2, d3, q1, q2, q3, f1, f2, f3, rfl, rfl, by omega, by omega, hf.1, hf.2, H1.out.kept kf G4.out G5.out, H3.out.kept kf G4.out G5.out, KW.out.trans' kf (fun i hi hs => by omega)⟩)
                      clear kf hf c40 c41 c42 c43 c50 c51 c52 c53 cf4 cf5
                      generalize ((((((((V4.setCell ⟨g4, 0, none⟩ (.bool false)).setCell ⟨g4, 1, none⟩ (.slice p1 k1 d1)).setCell ⟨g4, 2, none⟩ (.slice p2 k2 d2)).setCell ⟨g4, 3, none⟩ (.slice p3 k3 d3)).setCell ⟨g5, 0, none⟩ (.bool false)).setCell ⟨g5, 1, none⟩ (.slice q1 k1 f1)).setCell ⟨g5, 2, none⟩ (.slice q2 k2 f2)).setCell ⟨g5, 3, none⟩ (.slice q3 k3 f3)) = WX at *
                      go_wp2_with fail
                      go_meet
                      case rel => exact hT2.out
                  · skip
                    go_simp
                    refine hK.out _ _ (BXW.out _ (KW.out.alloc _)) (fun _ => ?_); clear hK K; (try go_simp)
                    have G5 := hidden (blk_new V2 (.cells #[.bool false, .slice none 0 0, .slice none 0 0, .slice none 0 0] 25))
                    have KA := same_alloc V2 (.cells #[.bool false, .slice none 0 0, .slice none 0 0, .slice none 0 0] 25)
                    have H1 := hidden (H1.out.same KA)
                    have lG4 := blk_lt G4.out
                    have G4 := hidden (blk_kept KA (fun h => h) G4.out)
                    have zg5 := KW.out.size
                    have KW := hidden (KW.out.alloc (.cells #[.bool false, .slice none 0 0, .slice none 0 0, .slice none 0 0] 25))
                    clear KA
                    generalize V2.heap.size = g5 at *
                    generalize V2.alloc (.cells #[.bool false, .slice none 0 0, .slice none 0 0, .slice none 0 0] 25) = V3 at *
                    refine wpAnyH_ready (rs := [3]) (by kernel_rfl) (by simp) ?_
                    refine (AllReadyH.cons rfl (fun K hK => ?_) AllReadyH.nil)
                    · skip
                      refine step_call rfl 8 #[.agg #[.bool false, .slice (some ⟨bk, off, none⟩) k1 c1, .slice a2 k2 c2, .slice a3 k3 c3]] (fun u W => CpR n k1 k2 k3 _ u W) (by go_simp; try rfl) (HCq.out _ (K0.out.trans KW.out)) ?_
                      rintro u V4 hu
                      obtain ⟨q1, q2, q3, f1, f2, f3, rfl, cp, kk⟩ := hu.ex
                      rw [HL.out]
                      have H3 := hidden cp
                      have H1 := hidden (H1.out.same kk)
                      have G4 := hidden (blk_kept kk (fun h => h) G4.out)
                      have G5 := hidden (blk_kept kk (fun h => h) G5.out)
                      have KW := hidden (KW.out.trans kk)
                      clear hu cp kk
                      refine hK.out _ _ (BXW.out _ (KW.out)) (fun _ => ?_); clear hK K; (try go_simp)
                      have hne : g4 ≠ g5 := by omega
                      have c40 := blk_cell (j := 0) G4.out; have c41 := blk_cell (j := 1) G4.out; have c42 := blk_cell (j := 2) G4.out; have c43 := blk_cell (j := 3) G4.out; simp at c40 c41 c42 c43
                      have cf4 := (fun j => blk_free (j := j) G4.out)
                      have c50 := blk_cell (j := 0) G5.out; have c51 := blk_cell (j := 1) G5.out; have c52 := blk_cell (j := 2) G5.out; have c53 := blk_cell (j := 3) G5.out; simp at c50 c51 c52 c53
                      have cf5 := (fun j => blk_free (j := j) G5.out)
                      refine wpAnyH_ready (rs := [6]) (by kernel_rfl) (by simp) ?_
                      refine (AllReadyH.cons rfl (fun K hK => ?_) AllReadyH.nil)
                      go_simp
                      refine hK.out _ _ (BXW.out _ (same_fill4 KW.out (g := g4) (by omega) _ _ _ _)) (fun _ => ?_); clear hK K; (try go_simp)
                      refine wpAnyH_ready (rs := [7]) (by kernel_rfl) (by simp) ?_
                      refine (AllReadyH.cons rfl (fun K hK => ?_) AllReadyH.nil)
                      go_simp
                      refine hK.out _ _ (BXW.out _ (same_fill4 (same_fill4 KW.out (g := g4) (by omega) _ _ _ _) (g := g5) (by omega) _ _ _ _)) (fun _ => ?_); clear hK K; (try go_simp)
                      refine wpAnyH_done (by kernel_rfl) ?_ _
                      have kf := kept_fill8 (W := V4) (g := g4) (h := g5) (.bool false) (.slice p1 k1 d1) (.slice p2 k2 d2) (.slice p3 k3 d3) (.bool false) (.slice q1 k1 f1) (.slice q2 k2 f2) (.slice q3 k3 f3)
                      have hf := fill8 G4.out G5.out hne (.bool false) (.slice p1 k1 d1) (.slice p2 k2 d2) (.slice p3 k3 d3) (.bool false) (.slice q1 k1 f1) (.slice q2 k2 f2) (.slice q3 k3 f3)
                      have hT2 := hidden (show Two n false k1 k2 k3 WA (.pointer (some ⟨g4, 0, none⟩)) (.pointer (some ⟨g5, 0, none⟩)) _ from ⟨g4, g5, p1, p2, p3, d1, d2, d3, q1, q2, q3, f1, f2, f3, rfl, rfl, by omega, by omega, hf.1, hf.2, H1.out.kept kf G4.out G5.out, H3.out.kept kf G4.out G5.out, KW.out.trans' kf (fun i hi hs => by omega)⟩)
                      clear kf hf c40 c41 c42 c43 c50 c51 c52 c53 cf4 cf5
                      generalize ((((((((V4.setCell ⟨g4, 0, none⟩ (.bool false)).setCell ⟨g4, 1, none⟩ (.slice p1 k1 d1)).setCell ⟨g4, 2, none⟩ (.slice p2 k2 d2)).setCell ⟨g4, 3, none⟩ (.slice p3 k3 d3)).setCell ⟨g5, 0, none⟩ (.bool false)).setCell ⟨g5, 1, none⟩ (.slice q1 k1 f1)).setCell ⟨g5, 2, none⟩ (.slice q2 k2 f2)).setCell ⟨g5, 3, none⟩ (.slice q3 k3 f3)) = WX at *
                      go_wp2_with fail
                      go_meet
                      case rel => exact hT2.out
                · skip
                  go_simp
                  refine hK.out _ _ (BXW.out _ (KW.out.alloc _)) (fun _ => ?_); clear hK K; (try go_simp)
                  have G5 := hidden (blk_new V1 (.cells #[.bool false, .slice none 0 0, .slice none 0 0, .slice none 0 0] 25))
                  have KA := same_alloc V1 (.cells #[.bool false, .slice none 0 0, .slice none 0 0, .slice none 0 0] 25)
                  have H1 := hidden (H1.out.same KA)
                  have zg5 := KW.out.size
                  have KW := hidden (KW.out.alloc (.cells #[.bool false, .slice none 0 0, .slice none 0 0, .slice none 0 0] 25))
                  clear KA
                  generalize V1.heap.size = g5 at *
                  generalize V1.alloc (.cells #[.bool false, .slice none 0 0, .slice none 0 0, .slice none 0 0] 25) = V2 at *
                  refine wpAnyH_ready (rs := [3, 4]) (by kernel_rfl) (by simp) ?_
                  refine (AllReadyH.cons rfl (fun K hK => ?_) (AllReadyH.cons rfl (fun K hK => ?_) AllReadyH.nil))
                  · skip
                    refine step_call rfl 8 #[.agg #[.bool false, .slice (some ⟨bk, off, none⟩) k1 c1, .slice a2 k2 c2, .slice a3 k3 c3]] (fun u W => CpR n k1 k2 k3 _ u W) (by go_simp; try rfl) (HCq.out _ (K0.out.trans KW.out)) ?_
                    rintro u V3 hu
                    obtain ⟨q1, q2, q3, f1, f2, f3, rfl, cp, kk⟩ := hu.ex
                    rw [HL.out]
                    have H3 := hidden cp
                    have H1 := hidden (H1.out.same kk)
                    have G5 := hidden (blk_kept kk (fun h => h) G5.out)
                    have KW := hidden (KW.out.trans kk)
                    clear hu cp kk
                    refine hK.out _ _ (BXW.out _ (KW.out)) (fun _ => ?_); clear hK K; (try go_simp)
                    refine wpAnyH_ready (rs := [4]) (by kernel_rfl) (by simp) ?_
                    refine (AllReadyH.cons rfl (fun K hK => ?_) AllReadyH.nil)
                    · skip
                      go_simp
                      refine hK.out _ _ (BXW.out _ (KW.out.alloc _)) (fun _ => ?_); clear hK K; (try go_simp)
                      have G4 := hidden (blk_new V3 (.cells #[.bool false, .slice none 0 0, .slice none 0 0, .slice none 0 0] 25))
                      have KA := same_alloc V3 (.cells #[.bool false, .slice none 0 0, .slice none 0 0, .slice none 0 0] 25)
                      have H1 := hidden (H1.out.same KA)
                      have lG5 := blk_lt G5.out
                      have G5 := hidden (blk_kept KA (fun h => h) G5.out)
                      have H3 := hidden (H3.out.same KA)
                      have zg4 := KW.out.size
                      have KW := hidden (KW.out.alloc (.cells #[.bool false, .slice none 0 0, .slice none 0 0, .slice none 0 0] 25))
                      clear KA
                      generalize V3.heap.size = g4 at *
                      generalize V3.alloc (.cells #[.bool false, .slice none 0 0, .slice none 0 0, .slice none 0 0] 25) = V4 at *
                      have hne : g4 ≠ g5 := by omega
                      have c40 := blk_cell (j := 0) G4.out; have c41 := blk_cell (j := 1) G4.out; have c42 := blk_cell (j := 2) G4.out; have c43 := blk_cell (j := 3) G4.out; simp at c40 c41 c42 c43
                      have cf4 := (fun j => blk_free (j := j) G4.out)
                      have c50 := blk_cell (j := 0) G5.out; have c51 := blk_cell (j := 1) G5.out; have c52 := blk_cell (j := 2) G5.out; have c53 := blk_cell (j := 3) G5.out; simp at c50 c51 c52 c53
                      have cf5 := (fun j => blk_free (j := j) G5.out)
                      refine wpAnyH_ready (rs := [6]) (by kernel_rfl) (by simp) ?_
                      refine (AllReadyH.cons rfl (fun K hK => ?_) AllReadyH.nil)
                      go_simp
                      refine hK.out _ _ (BXW.out _ (same_fill4 KW.out (g := g4) (by omega) _ _ _ _)) (fun _ => ?_); clear hK K; (try go_simp)
                      refine wpAnyH_ready (rs := [7]) (by kernel_rfl) (by simp) ?_
                      refine (AllReadyH.cons rfl (fun K hK => ?_) AllReadyH.nil)
                      go_simp
                      refine hK.out _ _ (BXW.out _ (same_fill4 (same_fill4 KW.out (g := g4) (by omega) _ _ _ _) (g := g5) (by omega) _ _ _ _)) (fun _ => ?_); clear hK K; (try go_simp)
                      refine wpAnyH_done (by kernel_rfl) ?_ _
                      have kf := kept_fill8 (W := V4) (g := g4) (h := g5) (.bool false) (.slice p1 k1 d1) (.slice p2 k2 d2) (.slice p3 k3 d3) (.bool false) (.slice q1 k1 f1) (.slice q2 k2 f2) (.slice q3 k3 f3)
                      have hf := fill8 G4.out G5.out hne (.bool false) (.slice p1 k1 d1) (.slice p2 k2 d2) (.slice p3 k3 d3) (.bool false) (.slice q1 k1 f1) (.slice q2 k2 f2) (.slice q3 k3 f3)
                      have hT2 := hidden (show Two n false k1 k2 k3 WA (.pointer (some ⟨g4, 0, none⟩)) (.pointer (some ⟨g5, 0, none⟩)) _ from ⟨g4, g5, p1, p2, p3, d1, d2, d3, q1, q2, q3, f1, f2, f3, rfl, rfl, by omega, by omega, hf.1, hf.2, H1.out.kept kf G4.out G5.out, H3.out.kept kf G4.out G5.out, KW.out.trans' kf (fun i hi hs => by omega)⟩)
                      clear kf hf c40 c41 c42 c43 c50 c51 c52 c53 cf4 cf5
                      generalize ((((((((V4.setCell ⟨g4, 0, none⟩ (.bool false)).setCell ⟨g4, 1, none⟩ (.slice p1 k1 d1)).setCell ⟨g4, 2, none⟩ (.slice p2 k2 d2)).setCell ⟨g4, 3, none⟩ (.slice p3 k3 d3)).setCell ⟨g5, 0, none⟩ (.bool false)).setCell ⟨g5, 1, none⟩ (.slice q1 k1 f1)).setCell ⟨g5, 2, none⟩ (.slice q2 k2 f2)).setCell ⟨g5, 3, none⟩ (.slice q3 k3 f3)) = WX at *
                      go_wp2_with fail
                      go_meet
                      case rel => exact hT2.out
                  · skip
                    go_simp
                    refine hK.out _ _ (BXW.out _ (KW.out.alloc _)) (fun _ => ?_); clear hK K; (try go_simp)
                    have G4 := hidden (blk_new V2 (.cells #[.bool false, .slice none 0 0, .slice none 0 0, .slice none 0 0] 25))
                    have KA := same_alloc V2 (.cells #[.bool false, .slice none 0 0, .slice none 0 0, .slice none 0 0] 25)
                    have H1 := hidden (H1.out.same KA)
                    have lG5 := blk_lt G5.out
                    have G5 := hidden (blk_kept KA (fun h => h) G5.out)
                    have zg4 := KW.out.size
                    have KW := hidden (KW.out.alloc (.cells #[.bool false, .slice none 0 0, .slice none 0 0, .slice none 0 0] 25))
                    clear KA
                    generalize V2.heap.size = g4 at *
                    generalize V2.alloc (.cells #[.bool false, .slice none 0 0, .slice none 0 0, .slice none 0 0] 25) = V3 at *
                    refine wpAnyH_ready (rs := [3]) (by kernel_rfl) (by simp) ?_
                    refine (AllReadyH.cons rfl (fun K hK => ?_) AllReadyH.nil)
                    · skip
                      refine step_call rfl 8 #[.agg #[.bool false, .slice (some ⟨bk, off, none⟩) k1 c1, .slice a2 k2 c2, .slice a3 k3 c3]] (fun u W => CpR n k1 k2 k3 _ u W) (by go_simp; try rfl) (HCq.out _ (K0.out.trans KW.out)) ?_
                      rintro u V4 hu
                      obtain ⟨q1, q2, q3, f1, f2, f3, rfl, cp, kk⟩ := hu.ex
                      rw [HL.out]
                      have H3 := hidden cp
                      have H1 := hidden (H1.out.same kk)
                      have G5 := hidden (blk_kept kk (fun h => h) G5.out)
                      have G4 := hidden (blk_kept kk (fun h => h) G4.out)
                      have KW := hidden (KW.out.trans kk)
                      clear hu cp kk
                      refine hK.out _ _ (BXW.out _ (KW.out)) (fun _ => ?_); clear hK K; (try go_simp)
                      have hne : g4 ≠ g5 := by omega
                      have c40 := blk_cell (j := 0) G4.out; have c41 := blk_cell (j := 1) G4.out; have c42 := blk_cell (j := 2) G4.out; have c43 := blk_cell (j := 3) G4.out; simp at c40 c41 c42 c43
                      have cf4 := (fun j => blk_free (j := j) G4.out)
                      have c50 := blk_cell (j := 0) G5.out; have c51 := blk_cell (j := 1) G5.out; have c52 := blk_cell (j := 2) G5.out; have c53 := blk_cell (j := 3) G5.out; simp at c50 c51 c52 c53
                      have cf5 := (fun j => blk_free (j := j) G5.out)
                      refine wpAnyH_ready (rs := [6]) (by kernel_rfl) (by simp) ?_
                      refine (AllReadyH.cons rfl (fun K hK => ?_) AllReadyH.nil)
                      go_simp
                      refine hK.out _ _ (BXW.out _ (same_fill4 KW.out (g := g4) (by omega) _ _ _ _)) (fun _ => ?_); clear hK K; (try go_simp)
                      refine wpAnyH_ready (rs := [7]) (by kernel_rfl) (by simp) ?_
                      refine (AllReadyH.cons rfl (fun K hK => ?_) AllReadyH.nil)
                      go_simp
                      refine hK.out _ _ (BXW.out _ (same_fill4 (same_fill4 KW.out (g := g4) (by omega) _ _ _ _) (g := g5) (by omega) _ _ _ _)) (fun _ => ?_); clear hK K; (try go_simp)
                      refine wpAnyH_done (by kernel_rfl) ?_ _
                      have kf := kept_fill8 (W := V4) (g := g4) (h := g5) (.bool false) (.slice p1 k1 d1) (.slice p2 k2 d2) (.slice p3 k3 d3) (.bool false) (.slice q1 k1 f1) (.slice q2 k2 f2) (.slice q3 k3 f3)
                      have hf := fill8 G4.out G5.out hne (.bool false) (.slice p1 k1 d1) (.slice p2 k2 d2) (.slice p3 k3 d3) (.bool false) (.slice q1 k1 f1) (.slice q2 k2 f2) (.slice q3 k3 f3)
                      have hT2 := hidden (show Two n false k1 k2 k3 WA (.pointer (some ⟨g4, 0, none⟩)) (.pointer (some ⟨g5, 0, none⟩)) _ from ⟨g4, g5, p1, p2, p3, d1, d2, d3, q1, q2, q3, f1, f2, f3, rfl, rfl, by omega, by omega, hf.1, hf.2, H1.out.kept kf G4.out G5.out, H3.out.kept kf G4.out G5.out, KW.out.trans' kf (fun i hi hs => by omega)⟩)
                      clear kf hf c40 c41 c42 c43 c50 c51 c52 c53 cf4 cf5
                      generalize ((((((((V4.setCell ⟨g4, 0, none⟩ (.bool false)).setCell ⟨g4, 1, none⟩ (.slice p1 k1 d1)).setCell ⟨g4, 2, none⟩ (.slice p2 k2 d2)).setCell ⟨g4, 3, none⟩ (.slice p3 k3 d3)).setCell ⟨g5, 0, none⟩ (.bool false)).setCell ⟨g5, 1, none⟩ (.slice q1 k1 f1)).setCell ⟨g5, 2, none⟩ (.slice q2 k2 f2)).setCell ⟨g5, 3, none⟩ (.slice q3 k3 f3)) = WX at *
                      go_wp2_with fail
                      go_meet
                      case rel => exact hT2.out
              · skip
                go_simp
                refine hK.out _ _ (BXW.out _ (KW.out.alloc _)) (fun _ => ?_); clear hK K; (try go_simp)
                have G4 := hidden (blk_new V0 (.cells #[.bool false, .slice none 0 0, .slice none 0 0, .slice none 0 0] 25))
                have KA := same_alloc V0 (.cells #[.bool false, .slice none 0 0, .slice none 0 0, .slice none 0 0] 25)
                have zg4 := KW.out.size
                have KW := hidden (KW.out.alloc (.cells #[.bool false, .slice none 0 0, .slice none 0 0, .slice none 0 0] 25))
                clear KA
                generalize V0.heap.size = g4 at *
                generalize V0.alloc (.cells #[.bool false, .slice none 0 0, .slice none 0 0, .slice none 0 0] 25) = V1 at *
                refine wpAnyH_ready (rs := [1, 5]) (by kernel_rfl) (by simp) ?_
                refine (AllReadyH.cons rfl (fun K hK => ?_) (AllReadyH.cons rfl (fun K hK => ?_) AllReadyH.nil))
                · skip
                  refine step_call rfl 8 #[.agg #[.bool false, .slice (some ⟨bk, off, none⟩) k1 c1, .slice a2 k2 c2, .slice a3 k3 c3]] (fun u W => CpR n k1 k2 k3 _ u W) (by go_simp; try rfl) (HCq.out _ (K0.out.trans KW.out)) ?_
                  rintro u V2 hu
                  obtain ⟨p1, p2, p3, d1, d2, d3, rfl, cp, kk⟩ := hu.ex
                  rw [HL.out]
                  have H1 := hidden cp
                  have G4 := hidden (blk_kept kk (fun h => h) G4.out)
                  have KW := hidden (KW.out.trans kk)
                  clear hu cp kk
                  refine hK.out _ _ (BXW.out _ (KW.out)) (fun _ => ?_); clear hK K; (try go_simp)
                  refine wpAnyH_ready (rs := [3, 5]) (by kernel_rfl) (by simp) ?_
                  refine (AllReadyH.cons rfl (fun K hK => ?_) (AllReadyH.cons rfl (fun K hK => ?_) AllReadyH.nil))
                  · skip
                    refine step_call rfl 8 #[.agg #[.bool false, .slice (some ⟨bk, off, none⟩) k1 c1, .slice a2 k2 c2, .slice a3 k3 c3]] (fun u W => CpR n k1 k2 k3 _ u W) (by go_simp; try rfl) (HCq.out _ (K0.out.trans KW.out)) ?_
                    rintro u V3 hu
                    obtain ⟨q1, q2, q3, f1, f2, f3, rfl, cp, kk⟩ := hu.ex
                    rw [HL.out]
                    have H3 := hidden cp
                    have G4 := hidden (blk_kept kk (fun h => h) G4.out)
                    have H1 := hidden (H1.out.same kk)
                    have KW := hidden (KW.out.trans kk)
                    clear hu cp kk
                    refine hK.out _ _ (BXW.out _ (KW.out)) (fun _ => ?_); clear hK K; (try go_simp)
                    refine wpAnyH_ready (rs := [5]) (by kernel_rfl) (by simp) ?_
                    refine (AllReadyH.cons rfl (fun K hK => ?_) AllReadyH.nil)
                    · skip
                      go_simp
                      refine hK.out _ _ (BXW.out _ (KW.out.alloc _)) (fun _ => ?_); clear hK K; (try go_simp)
                      have G5 := hidden (blk_new V3 (.cells #[.bool false, .slice none 0 0, .slice none 0 0, .slice none 0 0] 25))
                      have KA := same_alloc V3 (.cells #[.bool false, .slice none 0 0, .slice none 0 0, .slice none 0 0] 25)
                      have lG4 := blk_lt G4.out
                      have G4 := hidden (blk_kept KA (fun h => h) G4.out)
                      have H1 := hidden (H1.out.same KA)
                      have H3 := hidden (H3.out.same KA)
                      have zg5 := KW.out.size
                      have KW := hidden (KW.out.alloc (.cells #[.bool false, .slice none 0 0, .slice none 0 0, .slice none 0 0] 25))
                      clear KA
                      generalize V3.heap.size = g5 at *
                      generalize V3.alloc (.cells #[.bool false, .slice none 0 0, .slice none 0 0, .slice none 0 0] 25) = V4 at *
                      have hne : g4 ≠ g5 := by omega
                      have c40 := blk_cell (j := 0) G4.out; have c41 := blk_cell (j := 1) G4.out; have c42 := blk_cell (j := 2) G4.out; have c43 := blk_cell (j := 3) G4.out; simp at c40 c41 c42 c43
                      have cf4 := (fun j => blk_free (j := j) G4.out)
                      have c50 := blk_cell (j := 0) G5.out; have c51 := blk_cell (j := 1) G5.out; have c52 := blk_cell (j := 2) G5.out; have c53 := blk_cell (j := 3) G5.out; simp at c50 c51 c52 c53
                      have cf5 := (fun j => blk_free (j := j) G5.out)
                      refine wpAnyH_ready (rs := [6]) (by kernel_rfl) (by simp) ?_
                      refine (AllReadyH.cons rfl (fun K hK => ?_) AllReadyH.nil)
                      go_simp
                      refine hK.out _ _ (BXW.out _ (same_fill4 KW.out (g := g4) (by omega) _ _ _ _)) (fun _ => ?_); clear hK K; (try go_simp)
                      refine wpAnyH_ready (rs := [7]) (by kernel_rfl) (by simp) ?_
                      refine (AllReadyH.cons rfl (fun K hK => ?_) AllReadyH.nil)
                      go_simp
                      refine hK.out _ _ (BXW.out _ (same_fill4 (same_fill4 KW.out (g := g4) (by omega) _ _ _ _) (g := g5) (by omega) _ _ _ _)) (fun _ => ?_); clear hK K; (try go_simp)
                      refine wpAnyH_done (by kernel_rfl) ?_ _
                      have kf := kept_fill8 (W := V4) (g := g4) (h := g5) (.bool false) (.slice p1 k1 d1) (.slice p2 k2 d2) (.slice p3 k3 d3) (.bool false) (.slice q1 k1 f1) (.slice q2 k2 f2) (.slice q3 k3 f3)
                      have hf := fill8 G4.out G5.out hne (.bool false) (.slice p1 k1 d1) (.slice p2 k2 d2) (.slice p3 k3 d3) (.bool false) (.slice q1 k1 f1) (.slice q2 k2 f2) (.slice q3 k3 f3)
                      have hT2 := hidden (show Two n false k1 k2 k3 WA (.pointer (some ⟨g4, 0, none⟩)) (.pointer (some ⟨g5, 0, none⟩)) _ from ⟨g4, g5, p1, p2, p3, d1, d2, d3, q1, q2, q3, f1, f2, f3, rfl, rfl, by omega, by omega, hf.1, hf.2, H1.out.kept kf G4.out G5.out, H3.out.kept kf G4.out G5.out, KW.out.trans' kf (fun i hi hs => by omega)⟩)
                      clear kf hf c40 c41 c42 c43 c50 c51 c52 c53 cf4 cf5
                      generalize ((((((((V4.setCell ⟨g4, 0, none⟩ (.bool false)).setCell ⟨g4, 1, none⟩ (.slice p1 k1 d1)).setCell ⟨g4, 2, none⟩ (.slice p2 k2 d2)).setCell ⟨g4, 3, none⟩ (.slice p3 k3 d3)).setCell ⟨g5, 0, none⟩ (.bool false)).setCell ⟨g5, 1, none⟩ (.slice q1 k1 f1)).setCell ⟨g5, 2, none⟩ (.slice q2 k2 f2)).setCell ⟨g5, 3, none⟩ (.slice q3 k3 f3)) = WX at *
                      go_wp2_with fail
                      go_meet
                      case rel => exact hT2.out
                  · skip
                    go_simp
                    refine hK.out _ _ (BXW.out _ (KW.out.alloc _)) (fun _ => ?_); clear hK K; (try go_simp)
                    have G5 := hidden (blk_new V2 (.cells #[.bool false, .slice none 0 0, .slice none 0 0, .slice none 0 0] 25))
                    have KA := same_alloc V2 (.cells #[.bool false, .slice none 0 0, .slice none 0 0, .slice none 0 0] 25)
                    have lG4 := blk_lt G4.out
                    have G4 := hidden (blk_kept KA (fun h => h) G4.out)
                    have H1 := hidden (H1.out.same KA)
                    have zg5 := KW.out.size
                    have KW := hidden (KW.out.alloc (.cells #[.bool false, .slice none 0 0, .slice none 0 0, .slice none 0 0] 25))
                    clear KA
                    generalize V2.heap.size = g5 at *
                    generalize V2.alloc (.cells #[.bool false, .slice none 0 0, .slice none 0 0, .slice none 0 0] 25) = V3 at *
                    refine wpAnyH_ready (rs := [3]) (by kernel_rfl) (by simp) ?_
                    refine (AllReadyH.cons rfl (fun K hK => ?_) AllReadyH.nil)
                    · skip
                      refine step_call rfl 8 #[.agg #[.bool false, .slice (some ⟨bk, off, none⟩) k1 c1, .slice a2 k2 c2, .slice a3 k3 c3]] (fun u W => CpR n k1 k2 k3 _ u W) (by go_simp; try rfl) (HCq.out _ (K0.out.trans KW.out)) ?_
                      rintro u V4 hu
                      obtain ⟨q1, q2, q3, f1, f2, f3, rfl, cp, kk⟩ := hu.ex
                      rw [HL.out]
                      have H3 := hidden cp
                      have G4 := hidden (blk_kept kk (fun h => h) G4.out)
                      have H1 := hidden (H1.out.same kk)
                      have G5 := hidden (blk_kept kk (fun h => h) G5.out)
                      have KW := hidden (KW.out.trans kk)
                      clear hu cp kk
                      refine hK.out _ _ (BXW.out _ (KW.out)) (fun _ => ?_); clear hK K; (try go_simp)
                      have hne : g4 ≠ g5 := by omega
                      have c40 := blk_cell (j := 0) G4.out; have c41 := blk_cell (j := 1) G4.out; have c42 := blk_cell (j := 2) G4.out; have c43 := blk_cell (j := 3) G4.out; simp at c40 c41 c42 c43
                      have cf4 := (fun j => blk_free (j := j) G4.out)
                      have c50 := blk_cell (j := 0) G5.out; have c51 := blk_cell (j := 1) G5.out; have c52 := blk_cell (j := 2) G5.out; have c53 := blk_cell (j := 3) G5.out; simp at c50 c51 c52 c53
                      have cf5 := (fun j => blk_free (j := j) G5.out)
                      refine wpAnyH_ready (rs := [6]) (by kernel_rfl) (by simp) ?_
                      refine (AllReadyH.cons rfl (fun K hK => ?_) AllReadyH.nil)
                      go_simp
                      refine hK.out _ _ (BXW.out _ (same_fill4 KW.out (g := g4) (by omega) _ _ _ _)) (fun _ => ?_); clear hK K; (try go_simp)
                      refine wpAnyH_ready (rs := [7]) (by kernel_rfl) (by simp) ?_
                      refine (AllReadyH.cons rfl (fun K hK => ?_) AllReadyH.nil)
                      go_simp
                      refine hK.out _ _ (BXW.out _ (same_fill4 (same_fill4 KW.out (g := g4) (by omega) _ _ _ _) (g := g5) (by omega) _ _ _ _)) (fun _ => ?_); clear hK K; (try go_simp)
                      refine wpAnyH_done (by kernel_rfl) ?_ _
                      have kf := kept_fill8 (W := V4) (g := g4) (h := g5) (.bool false) (.slice p1 k1 d1) (.slice p2 k2 d2) (.slice p3 k3 d3) (.bool false) (.slice q1 k1 f1) (.slice q2 k2 f2) (.slice q3 k3 f3)
                      have hf := fill8 G4.out G5.out hne (.bool false) (.slice p1 k1 d1) (.slice p2 k2 d2) (.slice p3 k3 d3) (.bool false) (.slice q1 k1 f1) (.slice q2 k2 f2) (.slice q3 k3 f3)
                      have hT2 := hidden (show Two n false k1 k2 k3 WA (.pointer (some ⟨g4, 0, none⟩)) (.pointer (some ⟨g5, 0, none⟩)) _ from ⟨g4, g5, p1, p2, p3, d1, d2, d3, q1, q2, q3, f1, f2, f3, rfl, rfl, by omega, by omega, hf.1, hf.2, H1.out.kept kf G4.out G5.out, H3.out.kept kf G4.out G5.out, KW.out.trans' kf (fun i hi hs => by omega)⟩)
                      clear kf hf c40 c41 c42 c43 c50 c51 c52 c53 cf4 cf5
                      generalize ((((((((V4.setCell ⟨g4, 0, none⟩ (.bool false)).setCell ⟨g4, 1, none⟩ (.slice p1 k1 d1)).setCell ⟨g4, 2, none⟩ (.slice p2 k2 d2)).setCell ⟨g4, 3, none⟩ (.slice p3 k3 d3)).setCell ⟨g5, 0, none⟩ (.bool false)).setCell ⟨g5, 1, none⟩ (.slice q1 k1 f1)).setCell ⟨g5, 2, none⟩ (.slice q2 k2 f2)).setCell ⟨g5, 3, none⟩ (.slice q3 k3 f3)) = WX at *
                      go_wp2_with fail
                      go_meet
                      case rel => exact hT2.out
                · skip
                  go_simp
                  refine hK.out _ _ (BXW.out _ (KW.out.alloc _)) (fun _ => ?_); clear hK K; (try go_simp)
                  have G5 := hidden (blk_new V1 (.cells #[.bool false, .slice none 0 0, .slice none 0 0, .slice none 0 0] 25))
                  have KA := same_alloc V1 (.cells #[.bool false, .slice none 0 0, .slice none 0 0, .slice none 0 0] 25)
                  have lG4 := blk_lt G4.out
                  have G4 := hidden (blk_kept KA (fun h => h) G4.out)
                  have zg5 := KW.out.size
                  have KW := hidden (KW.out.alloc (.cells #[.bool false, .slice none 0 0, .slice none 0 0, .slice none 0 0] 25))
                  clear KA
                  generalize V1.heap.size = g5 at *
                  generalize V1.alloc (.cells #[.bool false, .slice none 0 0, .slice none 0 0, .slice none 0 0] 25) = V2 at *
                  refine wpAnyH_ready (rs := [1]) (by kernel_rfl) (by simp) ?_
                  refine (AllReadyH.cons rfl (fun K hK => ?_) AllReadyH.nil)
                  · skip
                    refine step_call rfl 8 #[.agg #[.bool false, .slice (some ⟨bk, off, none⟩) k1 c1, .slice a2 k2 c2, .slice a3 k3 c3]] (fun u W => CpR n k1 k2 k3 _ u W) (by go_simp; try rfl) (HCq.out _ (K0.out.trans KW.out)) ?_
                    rintro u V3 hu
                    obtain ⟨p1, p2, p3, d1, d2, d3, rfl, cp, kk⟩ := hu.ex
                    rw [HL.out]
                    have H1 := hidden cp
                    have G4 := hidden (blk_kept kk (fun h => h) G4.out)
                    have G5 := hidden (blk_kept kk (fun h => h) G5.out)
                    have KW := hidden (KW.out.trans kk)
                    clear hu cp kk
                    refine hK.out _ _ (BXW.out _ (KW.out)) (fun _ => ?_); clear hK K; (try go_simp)
                    refine wpAnyH_ready (rs := [3]) (by kernel_rfl) (by simp) ?_
                    refine (AllReadyH.cons rfl (fun K hK => ?_) AllReadyH.nil)
                    · skip
                      refine step_call rfl 8 #[.agg #[.bool false, .slice (some ⟨bk, off, none⟩) k1 c1, .slice a2 k2 c2, .slice a3 k3 c3]] (fun u W => CpR n k1 k2 k3 _ u W) (by go_simp; try rfl) (HCq.out _ (K0.out.trans KW.out)) ?_
                      rintro u V4 hu
                      obtain ⟨q1, q2, q3, f1, f2, f3, rfl, cp, kk⟩ := hu.ex
                      rw [HL.out]
                      have H3 := hidden cp
                      have G4 := hidden (blk_kept kk (fun h => h) G4.out)
                      have G5 := hidden (blk_kept kk (fun h => h) G5.out)
                      have H1 := hidden (H1.out.same kk)
                      have KW := hidden (KW.out.trans kk)
                      clear hu cp kk
                      refine hK.out _ _ (BXW.out _ (KW.out)) (fun _ => ?_); clear hK K; (try go_simp)
                      have hne : g4 ≠ g5 := by omega
                      have c40 := blk_cell (j := 0) G4.out; have c41 := blk_cell (j := 1) G4.out; have c42 := blk_cell (j := 2) G4.out; have c43 := blk_cell (j := 3) G4.out; simp at c40 c41 c42 c43
                      have cf4 := (fun j => blk_free (j := j) G4.out)
                      have c50 := blk_cell (j := 0) G5.out; have c51 := blk_cell (j := 1) G5.out; have c52 := blk_cell (j := 2) G5.out; have c53 := blk_cell (j := 3) G5.out; simp at c50 c51 c52 c53
                      have cf5 := (fun j => blk_free (j := j) G5.out)
                      refine wpAnyH_ready (rs := [6]) (by kernel_rfl) (by simp) ?_
                      refine (AllReadyH.cons rfl (fun K hK => ?_) AllReadyH.nil)
                      go_simp
                      refine hK.out _ _ (BXW.out _ (same_fill4 KW.out (g := g4) (by omega) _ _ _ _)) (fun _ => ?_); clear hK K; (try go_simp)
                      refine wpAnyH_ready (rs := [7]) (by kernel_rfl) (by simp) ?_
                      refine (AllReadyH.cons rfl (fun K hK => ?_) AllReadyH.nil)
                      go_simp
                      refine hK.out _ _ (BXW.out _ (same_fill4 (same_fill4 KW.out (g := g4) (by omega) _ _ _ _) (g := g5) (by omega) _ _ _ _)) (fun _ => ?_); clear hK K; (try go_simp)
                      refine wpAnyH_done (by kernel_rfl) ?_ _
                      have kf := kept_fill8 (W := V4) (g := g4) (h := g5) (.bool false) (.slice p1 k1 d1) (.slice p2 k2 d2) (.slice p3 k3 d3) (.bool false) (.slice q1 k1 f1) (.slice q2 k2 f2) (.slice q3 k3 f3)
                      have hf := fill8 G4.out G5.out hne (.bool false) (.slice p1 k1 d1) (.slice p2 k2 d2) (.slice p3 k3 d3) (.bool false) (.slice q1 k1 f1) (.slice q2 k2 f2) (.slice q3 k3 f3)
                      have hT2 := hidden (show Two n false k1 k2 k3 WA (.pointer (some ⟨g4, 0, none⟩)) (.pointer (some ⟨g5, 0, none⟩)) _ from ⟨g4, g5, p1, p2, p3, d1, d2, d3, q1, q2, q3, f1, f2, f3, rfl, rfl, by omega, by omega, hf.1, hf.2, H1.out.kept kf G4.out G5.out, H3.out.kept kf G4.out G5.out, KW.out.trans' kf (fun i hi hs => by omega)⟩)
                      clear kf hf c40 c41 c42 c43 c50 c51 c52 c53 cf4 cf5
                      generalize ((((((((V4.setCell ⟨g4, 0, none⟩ (.bool false)).setCell ⟨g4, 1, none⟩ (.slice p1 k1 d1)).setCell ⟨g4, 2, none⟩ (.slice p2 k2 d2)).setCell ⟨g4, 3, none⟩ (.slice p3 k3 d3)).setCell ⟨g5, 0, none⟩ (.bool false)).setCell ⟨g5, 1, none⟩ (.slice q1 k1 f1)).setCell ⟨g5, 2, none⟩ (.slice q2 k2 f2)).setCell ⟨g5, 3, none⟩ (.slice q3 k3 f3)) = WX at *
                      go_wp2_with fail
                      go_meet
                      case rel => exact hT2.out
              · skip
                go_simp
                refine hK.out _ _ (BXW.out _ (KW.out.alloc _)) (fun _ => ?_); clear hK K; (try go_simp)
                have G5 := hidden (blk_new V0 (.cells #[.bool false, .slice none 0 0, .slice none 0 0, .slice none 0 0] 25))
                have KA := same_alloc V0 (.cells #[.bool false, .slice none 0 0, .slice none 0 0, .slice none 0 0] 25)
                have zg5 := KW.out.size
                have KW := hidden (KW.out.alloc (.cells #[.bool false, .slice none 0 0, .slice none 0 0, .slice none 0 0] 25))
                clear KA
                generalize V0.heap.size = g5 at *
                generalize V0.alloc (.cells #[.bool false, .slice none 0 0, .slice none 0 0, .slice none 0 0] 25) = V1 at *
                refine wpAnyH_ready (rs := [1, 4]) (by kernel_rfl) (by simp) ?_
                refine (AllReadyH.cons rfl (fun K hK => ?_) (AllReadyH.cons rfl (fun K hK => ?_) AllReadyH.nil))
                · skip
                  refine step_call rfl 8 #[.agg #[.bool false, .slice (some ⟨bk, off, none⟩) k1 c1, .slice a2 k2 c2, .slice a3 k3 c3]] (fun u W => CpR n k1 k2 k3 _ u W) (by go_simp; try rfl) (HCq.out _ (K0.out.trans KW.out)) ?_
                  rintro u V2 hu
                  obtain ⟨p1, p2, p3, d1, d2, d3, rfl, cp, kk⟩ := hu.ex
                  rw [HL.out]
                  have H1 := hidden cp
                  have G5 := hidden (blk_kept kk (fun h => h) G5.out)
                  have KW := hidden (KW.out.trans kk)
                  clear hu cp kk
                  refine hK.out _ _ (BXW.out _ (KW.out)) (fun _ => ?_); clear hK K; (try go_simp)
                  refine wpAnyH_ready (rs := [3, 4]) (by kernel_rfl) (by simp) ?_
                  refine (AllReadyH.cons rfl (fun K hK => ?_) (AllReadyH.cons rfl (fun K hK => ?_) AllReadyH.nil))
                  · skip
                    refine step_call rfl 8 #[.agg #[.bool false, .slice (some ⟨bk, off, none⟩) k1 c1, .slice a2 k2 c2, .slice a3 k3 c3]] (fun u W => CpR n k1 k2 k3 _ u W) (by go_simp; try rfl) (HCq.out _ (K0.out.trans KW.out)) ?_
                    rintro u V3 hu
                    obtain ⟨q1, q2, q3, f1, f2, f3, rfl, cp, kk⟩ := hu.ex
                    rw [HL.out]
                    have H3 := hidden cp
                    have G5 := hidden (blk_kept kk (fun h => h) G5.out)
                    have H1 := hidden (H1.out.same kk)
                    have KW := hidden (KW.out.trans kk)
                    clear hu cp kk
                    refine hK.out _ _ (BXW.out _ (KW.out)) (fun _ => ?_); clear hK K; (try go_simp)
                    refine wpAnyH_ready (rs := [4]) (by kernel_rfl) (by simp) ?_
                    refine (AllReadyH.cons rfl (fun K hK => ?_) AllReadyH.nil)
                    · skip
                      go_simp
                      refine hK.out _ _ (BXW.out _ (KW.out.alloc _)) (fun _ => ?_); clear hK K; (try go_simp)
                      have G4 := hidden (blk_new V3 (.cells #[.bool false, .slice none 0 0, .slice none 0 0, .slice none 0 0] 25))
                      have KA := same_alloc V3 (.cells #[.bool false, .slice none 0 0, .slice none 0 0, .slice none 0 0] 25)
                      have lG5 := blk_lt G5.out
                      have G5 := hidden (blk_kept KA (fun h => h) G5.out)
                      have H1 := hidden (H1.out.same KA)
                      have H3 := hidden (H3.out.same KA)
                      have zg4 := KW.out.size
                      have KW := hidden (KW.out.alloc (.cells #[.bool false, .slice none 0 0, .slice none 0 0, .slice none 0 0] 25))
                      clear KA
                      generalize V3.heap.size = g4 at *
                      generalize V3.alloc (.cells #[.bool false, .slice none 0 0, .slice none 0 0, .slice none 0 0] 25) = V4 at *
                      have hne : g4 ≠ g5 := by omega
                      have c40 := blk_cell (j := 0) G4.out; have c41 := blk_cell (j := 1) G4.out; have c42 := blk_cell (j := 2) G4.out; have c43 := blk_cell (j := 3) G4.out; simp at c40 c41 c42 c43
                      have cf4 := (fun j => blk_free (j := j) G4.out)
                      have c50 := blk_cell (j := 0) G5.out; have c51 := blk_cell (j := 1) G5.out; have c52 := blk_cell (j := 2) G5.out; have c53 := blk_cell (j := 3) G5.out; simp at c50 c51 c52 c53
                      have cf5 := (fun j => blk_free (j := j) G5.out)
                      refine wpAnyH_ready (rs := [6]) (by kernel_rfl) (by simp) ?_
                      refine (AllReadyH.cons rfl (fun K hK => ?_) AllReadyH.nil)
                      go_simp
                      refine hK.out _ _ (BXW.out _ (same_fill4 KW.out (g := g4) (by omega) _ _ _ _)) (fun _ => ?_); clear hK K; (try go_simp)
                      refine wpAnyH_ready (rs := [7]) (by kernel_rfl) (by simp) ?_
                      refine (AllReadyH.cons rfl (fun K hK => ?_) AllReadyH.nil)
                      go_simp
                      refine hK.out _ _ (BXW.out _ (same_fill4 (same_fill4 KW.out (g := g4) (by omega) _ _ _ _) (g := g5) (by omega) _ _ _ _)) (fun _ => ?_); clear hK K; (try go_simp)
                      refine wpAnyH_done (by kernel_rfl) ?_ _
                      have kf := kept_fill8 (W := V4) (g := g4) (h := g5) (.bool false) (.slice p1 k1 d1) (.slice p2 k2 d2) (.slice p3 k3 d3) (.bool false) (.slice q1 k1 f1) (.slice q2 k2 f2) (.slice q3 k3 f3)
                      have hf := fill8 G4.out G5.out hne (.bool false) (.slice p1 k1 d1) (.slice p2 k2 d2) (.slice p3 k3 d3) (.bool false) (.slice q1 k1 f1) (.slice q2 k2 f2) (.slice q3 k3 f3)
                      have hT2 := hidden (show Two n false k1 k2 k3 WA (.pointer (some ⟨g4, 0, none⟩)) (.pointer (some ⟨g5, 0, none⟩)) _ from ⟨g4, g5, p1, p2, p3, d1, d2, d3, q1, q2, q3, f1, f2, f3, rfl, rfl, by omega, by omega, hf.1, hf.2, H1.out.kept kf G4.out G5.out, H3.out.kept kf G4.out G5.out, KW.out.trans' kf (fun i hi hs => by omega)⟩)
                      clear kf hf c40 c41 c42 c43 c50 c51 c52 c53 cf4 cf5
                      generalize ((((((((V4.setCell ⟨g4, 0, none⟩ (.bool false)).setCell ⟨g4, 1, none⟩ (.slice p1 k1 d1)).setCell ⟨g4, 2, none⟩ (.slice p2 k2 d2)).setCell ⟨g4, 3, none⟩ (.slice p3 k3 d3)).setCell ⟨g5, 0, none⟩ (.bool false)).setCell ⟨g5, 1, none⟩ (.slice q1 k1 f1)).setCell ⟨g5, 2, none⟩ (.slice q2 k2 f2)).setCell ⟨g5, 3, none⟩ (.slice q3 k3 f3)) = WX at *
                      go_wp2_with fail
                      go_meet
                      case rel => exact hT2.out
                  · skip
                    go_simp
                    refine hK.out _ _ (BXW.out _ (KW.out.alloc _)) (fun _ => ?_); clear hK K; (try go_simp)
                    have G4 := hidden (blk_new V2 (.cells #[.bool false, .slice none 0 0, .slice none 0 0, .slice none 0 0] 25))
                    have KA := same_alloc V2 (.cells #[.bool false, .slice none 0 0, .slice none 0 0, .slice none 0 0] 25)
                    have lG5 := blk_lt G5.out
                    have G5 := hidden (blk_kept KA (fun h => h) G5.out)
                    have H1 := hidden (H1.out.same KA)
                    have zg4 := KW.out.size
                    have KW := hidden (KW.out.alloc (.cells #[.bool false, .slice none 0 0, .slice none 0 0, .slice none 0 0] 25))
                    clear KA
                    generalize V2.heap.size = g4 at *
                    generalize V2.alloc (.cells #[.bool false, .slice none 0 0, .slice none 0 0, .slice none 0 0] 25) = V3 at *
                    refine wpAnyH_ready (rs := [3]) (by kernel_rfl) (by simp) ?_
                    refine (AllReadyH.cons rfl (fun K hK => ?_) AllReadyH.nil)
                    · skip
                      refine step_call rfl 8 #[.agg #[.bool false, .slice (some ⟨bk, off, none⟩) k1 c1, .slice a2 k2 c2, .slice a3 k3 c3]] (fun u W => CpR n k1 k2 k3 _ u W) (by go_simp; try rfl) (HCq.out _ (K0.out.trans KW.out)) ?_
                      rintro u V4 hu
                      obtain ⟨q1, q2, q3, f1, f2, f3, rfl, cp, kk⟩ := hu.ex
                      rw [HL.out]
                      have H3 := hidden cp
                      have G5 := hidden (blk_kept kk (fun h => h) G5.out)
                      have H1 := hidden (H1.out.same kk)
                      have G4 := hidden (blk_kept kk (fun h => h) G4.out)
                      have KW := hidden (KW.out.trans kk)
                      clear hu cp kk
                      refine hK.out _ _ (BXW.out _ (KW.out)) (fun _ => ?_); clear hK K; (try go_simp)
                      have hne : g4 ≠ g5 := by omega
                      have c40 := blk_cell (j := 0) G4.out; have c41 := blk_cell (j := 1) G4.out; have c42 := blk_cell (j := 2) G4.out; have c43 := blk_cell (j := 3) G4.out; simp at c40 c41 c42 c43
                      have cf4 := (fun j => blk_free (j := j) G4.out)
                      have c50 := blk_cell (j := 0) G5.out; have c51 := blk_cell (j := 1) G5.out; have c52 := blk_cell (j := 2) G5.out; have c53 := blk_cell (j := 3) G5.out; simp at c50 c51 c52 c53
                      have cf5 := (fun j => blk_free (j := j) G5.out)
                      refine wpAnyH_ready (rs := [6]) (by kernel_rfl) (by simp) ?_
                      refine (AllReadyH.cons rfl (fun K hK => ?_) AllReadyH.nil)
                      go_simp
                      refine hK.out _ _ (BXW.out _ (same_fill4 KW.out (g := g4) (by omega) _ _ _ _)) (fun _ => ?_); clear hK K; (try go_simp)
                      refine wpAnyH_ready (rs := [7]) (by kernel_rfl) (by simp) ?_
                      refine (AllReadyH.cons rfl (fun K hK => ?_) AllReadyH.nil)
                      go_simp
                      refine hK.out _ _ (BXW.out _ (same_fill4 (same_fill4 KW.out (g := g4) (by omega) _ _ _ _) (g := g5) (by omega) _ _ _ _)) (fun _ => ?_); clear hK K; (try go_simp)
                      refine wpAnyH_done (by kernel_rfl) ?_ _
                      have kf := kept_fill8 (W := V4) (g := g4) (h := g5) (.bool false) (.slice p1 k1 d1) (.slice p2 k2 d2) (.slice p3 k3 d3) (.bool false) (.slice q1 k1 f1) (.slice q2 k2 f2) (.slice q3 k3 f3)
                      have hf := fill8 G4.out G5.out hne (.bool false) (.slice p1 k1 d1) (.slice p2 k2 d2) (.slice p3 k3 d3) (.bool false) (.slice q1 k1 f1) (.slice q2 k2 f2) (.slice q3 k3 f3)
                      have hT2 := hidden (show Two n false k1 k2 k3 WA (.pointer (some ⟨g4, 0, none⟩)) (.pointer (some ⟨g5, 0, none⟩)) _ from ⟨g4, g5, p1, p2, p3, d1, d2, d3, q1, q2, q3, f1, f2, f3, rfl, rfl, by omega, by omega, hf.1, hf.2, H1.out.kept kf G4.out G5.out, H3.out.kept kf G4.out G5.out, KW.out.trans' kf (fun i hi hs => by omega)⟩)
                      clear kf hf c40 c41 c42 c43 c50 c51 c52 c53 cf4 cf5
                      generalize ((((((((V4.setCell ⟨g4, 0, none⟩ (.bool false)).setCell ⟨g4, 1, none⟩ (.slice p1 k1 d1)).setCell ⟨g4, 2, none⟩ (.slice p2 k2 d2)).setCell ⟨g4, 3, none⟩ (.slice p3 k3 d3)).setCell ⟨g5, 0, none⟩ (.bool false)).setCell ⟨g5, 1, none⟩ (.slice q1 k1 f1)).setCell ⟨g5, 2, none⟩ (.slice q2 k2 f2)).setCell ⟨g5, 3, none⟩ (.slice q3 k3 f3)) = WX at *
                      go_wp2_with fail
                      go_meet
                      case rel => exact hT2.out
                · skip
                  go_simp
                  refine hK.out _ _ (BXW.out _ (KW.out.alloc _)) (fun _ => ?_); clear hK K; (try go_simp)
                  have G4 := hidden (blk_new V1 (.cells #[.bool false, .slice none 0 0, .slice none 0 0, .slice none 0 0] 25))
                  have KA := same_alloc V1 (.cells #[.bool false, .slice none 0 0, .slice none 0 0, .slice none 0 0] 25)
                  have lG5 := blk_lt G5.out
                  have G5 := hidden (blk_kept KA (fun h => h) G5.out)
                  have zg4 := KW.out.size
                  have KW := hidden (KW.out.alloc (.cells #[.bool false, .slice none 0 0, .slice none 0 0, .slice none 0 0] 25))
                  clear KA
                  generalize V1.heap.size = g4 at *
                  generalize V1.alloc (.cells #[.bool false, .slice none 0 0, .slice none 0 0, .slice none 0 0] 25) = V2 at *
                  refine wpAnyH_ready (rs := [1]) (by kernel_rfl) (by simp) ?_
                  refine (AllReadyH.cons rfl (fun K hK => ?_) AllReadyH.nil)
                  · skip
                    refine step_call rfl 8 #[.agg #[.bool false, .slice (some ⟨bk, off, none⟩) k1 c1, .slice a2 k2 c2, .slice a3 k3 c3]] (fun u W => CpR n k1 k2 k3 _ u W) (by go_simp; try rfl) (HCq.out _ (K0.out.trans KW.out)) ?_
                    rintro u V3 hu
                    obtain ⟨p1, p2, p3, d1, d2, d3, rfl, cp, kk⟩ := hu.ex
                    rw [HL.out]
                    have H1 := hidden cp
                    have G5 := hidden (blk_kept kk (fun h => h) G5.out)
                    have G4 := hidden (blk_kept kk (fun h => h) G4.out)
                    have KW := hidden (KW.out.trans kk)
                    clear hu cp kk
                    refine hK.out _ _ (BXW.out _ (KW.out)) (fun _ => ?_); clear hK K; (try go_simp)
                    refine wpAnyH_ready (rs := [3]) (by kernel_rfl) (by simp) ?_
                    refine (AllReadyH.cons rfl (fun K hK => ?_) AllReadyH.nil)
                    · skip
                      refine step_call rfl 8 #[.agg #[.bool false, .slice (some ⟨bk, off, none⟩) k1 c1, .slice a2 k2 c2, .slice a3 k3 c3]] (fun u W => CpR n k1 k2 k3 _ u W) (by go_simp; try rfl) (HCq.out _ (K0.out.trans KW.out)) ?_
                      rintro u V4 hu
                      obtain ⟨q1, q2, q3, f1, f2, f3, rfl, cp, kk⟩ := hu.ex
                      rw [HL.out]
                      have H3 := hidden cp
                      have G5 := hidden (blk_kept kk (fun h => h) G5.out)
                      have G4 := hidden (blk_kept kk (fun h => h) G4.out)
                      have H1 := hidden (H1.out.same kk)
                      have KW := hidden (KW.out.trans kk)
                      clear hu cp kk
                      refine hK.out _ _ (BXW.out _ (KW.out)) (fun _ => ?_); clear hK K; (try go_simp)
                      have hne : g4 ≠ g5 := by omega
                      have c40 := blk_cell (j := 0) G4.out; have c41 := blk_cell (j := 1) G4.out; have c42 := blk_cell (j := 2) G4.out; have c43 := blk_cell (j := 3) G4.out; simp at c40 c41 c42 c43
                      have cf4 := (fun j => blk_free (j := j) G4.out)
                      have c50 := blk_cell (j := 0) G5.out; have c51 := blk_cell (j := 1) G5.out; have c52 := blk_cell (j := 2) G5.out; have c53 := blk_cell (j := 3) G5.out; simp at c50 c51 c52 c53
                      have cf5 := (fun j => blk_free (j := j) G5.out)
                      refine wpAnyH_ready (rs := [6]) (by kernel_rfl) (by simp) ?_
                      refine (AllReadyH.cons rfl (fun K hK => ?_) AllReadyH.nil)
                      go_simp
                      refine hK.out _ _ (BXW.out _ (same_fill4 KW.out (g := g4) (by omega) _ _ _ _)) (fun _ => ?_); clear hK K; (try go_simp)
                      refine wpAnyH_ready (rs := [7]) (by kernel_rfl) (by simp) ?_
                      refine (AllReadyH.cons rfl (fun K hK => ?_) AllReadyH.nil)
                      go_simp
                      refine hK.out _ _ (BXW.out _ (same_fill4 (same_fill4 KW.out (g := g4) (by omega) _ _ _ _) (g := g5) (by omega) _ _ _ _)) (fun _ => ?_); clear hK K; (try go_simp)
                      refine wpAnyH_done (by kernel_rfl) ?_ _
                      have kf := kept_fill8 (W := V4) (g := g4) (h := g5) (.bool false) (.slice p1 k1 d1) (.slice p2 k2 d2) (.slice p3 k3 d3) (.bool false) (.slice q1 k1 f1) (.slice q2 k2 f2) (.slice q3 k3 f3)
                      have hf := fill8 G4.out G5.out hne (.bool false) (.slice p1 k1 d1) (.slice p2 k2 d2) (.slice p3 k3 d3) (.bool false) (.slice q1 k1 f1) (.slice q2 k2 f2) (.slice q3 k3 f3)
                      have hT2 := hidden (show Two n false k1 k2 k3 WA (.pointer (some ⟨g4, 0, none⟩)) (.pointer (some ⟨g5, 0, none⟩)) _ from ⟨g4, g5, p1, p2, p3, d1, d2, d3, q1, q2, q3, f1, f2, f3, rfl, rfl, by omega, by omega, hf.1, hf.2, H1.out.kept kf G4.out G5.out, H3.out.kept kf G4.out G5.out, KW.out.trans' kf (fun i hi hs => by omega)⟩)
                      clear kf hf c40 c41 c42 c43 c50 c51 c52 c53 cf4 cf5
                      generalize ((((((((V4.setCell ⟨g4, 0, none⟩ (.bool false)).setCell ⟨g4, 1, none⟩ (.slice p1 k1 d1)).setCell ⟨g4, 2, none⟩ (.slice p2 k2 d2)).setCell ⟨g4, 3, none⟩ (.slice p3 k3 d3)).setCell ⟨g5, 0, none⟩ (.bool false)).setCell ⟨g5, 1, none⟩ (.slice q1 k1 f1)).setCell ⟨g5, 2, none⟩ (.slice q2 k2 f2)).setCell ⟨g5, 3, none⟩ (.slice q3 k3 f3)) = WX at *
                      go_wp2_with fail
                      go_meet
                      case rel => exact hT2.out
            case rest =>
              obtain ⟨g, h, p1, p2, p3, d1, d2, d3, q1, q2, q3, f1, f2, f3, rfl, rfl, hg, hh, bg, bh, cp1, cp2, kc⟩ := hcut.ex
              clear hcut S3 S1 S2 K1 y0 y1 y2 y3
              obtain ⟨z0, z1, z2, z3⟩ := BXW.out wc kc
              have KC := hidden kc
              have CP1 := hidden cp1
              have CP2 := hidden cp2
              have BG := hidden bg
              have BH := hidden bh
              have hc1 := (Row.own cp1.r1).len.2
              have hc2 := (Row.own cp1.r2).len.2
              have hc3 := (Row.own cp1.r3).len.2
              have hd1 := (Row.own cp2.r1).len.2
              have hd2 := (Row.own cp2.r2).len.2
              have hd3 := (Row.own cp2.r3).len.2
              clear cp1 cp2 kc bg bh
              have hkk := HKK.out
              have s1 := sl_first unS szS p1 k1 d1 i (by omega) hc1
              have s2 : ∀ W, (Instr.sliceAt 23 (.slice p3 k3 d3) none (some (.int .i64 ((i : Int) + 1))) none).run Tryd.prog W = _ := fun W => sl_first unI szI p3 k3 d3 (i + 1) (by omega) hc3 W
              have t1 : ∀ W, (Instr.sliceAt 22 (.slice q1 k1 f1) (some (.int .i64 ((i : Int) + 1))) none none).run Tryd.prog W = _ := fun W => sl_rest unS szS q1 k1 f1 (i + 1) (by omega) hd1 W
              have t2 : ∀ W, (Instr.sliceAt 23 (.slice q3 k3 f3) (some (.int .i64 ((i : Int) + 1))) none none).run Tryd.prog W = _ := fun W => sl_rest unI szI q3 k3 f3 (i + 1) (by omega) hd3 W
              generalize hx1 : (if d1 = 0 then p1 else p1.map (·.add (0 * 1))) = x1 at s1
              generalize hx2 : (if d3 = 0 then p3 else p3.map (·.add (0 * 1))) = x2 at s2
              generalize hy1 : (if f1 = i + 1 then q1 else q1.map (·.add ((i + 1) * 1))) = y1 at t1
              generalize hy2 : (if f3 = i + 1 then q3 else q3.map (·.add ((i + 1) * 1))) = y2 at t2
              have HX1 := hidden hx1
              have HX2 := hidden hx2
              have HY1 := hidden hy1
              have HY2 := hidden hy2
              clear hx1 hx2 hy1 hy2 hkk hc1 hc2 hc3 hd1 hd2 hd3
              have hmx : Tryd.prog.follows .mixedOrders = true := by kernel_rfl
              go_wp2
              have HS1 : Hid (∀ W, Same wc W → (fun W : World => W.cell? ⟨g, 1, none⟩ = some (.slice p1 k1 d1) ∧ W.cell? ⟨g, 3, none⟩ = some (.slice p3 k3 d3)) W) := hidden (fun W kk => ⟨(blk_cell (blk_kept kk (fun h => h) BG.out)).trans rfl, (blk_cell (blk_kept kk (fun h => h) BG.out)).trans rfl⟩)
              refine wp_region_held_drew (S := (fun W : World => W.cell? ⟨g, 1, none⟩ = some (.slice p1 k1 d1) ∧ W.cell? ⟨g, 3, none⟩ = some (.slice p3 k3 d3))) hmx (HS1.out _ ((Kept.refl (fun _ => False) wc).drew)) (fun _ => ?_)
              refine wpAnyH_take (i := 0) (v := (.pointer (some ⟨g, 1, none⟩))) rfl (by kernel_rfl) (by kernel_rfl) (by kernel_rfl) (fun _ _ _ h => h) (Or.inl ⟨by rfl, (by intro w hSw; obtain ⟨j0, j1⟩ := hSw; go_simp; try (first | rfl | (rw [IntKind.wrap_i64]; omega)))⟩) (HS1.out _ ((Kept.refl (fun _ => False) wc).drew)) ?_; (try go_simp)
              refine wpAnyH_take (i := 1) (v := (.slice p1 k1 d1)) rfl (by kernel_rfl) (by kernel_rfl) (by kernel_rfl) (fun _ _ _ h => h) (Or.inl ⟨by rfl, (by intro w hSw; obtain ⟨j0, j1⟩ := hSw; go_simp; try (first | rfl | (rw [IntKind.wrap_i64]; omega)))⟩) (HS1.out _ ((Kept.refl (fun _ => False) wc).drew)) ?_; (try go_simp)
              refine wpAnyH_take (i := 2) (v := (.int .i64 i)) rfl (by kernel_rfl) (by kernel_rfl) (by kernel_rfl) (fun _ _ _ h => h) (Or.inl ⟨by rfl, (by intro w hSw; obtain ⟨j0, j1⟩ := hSw; go_simp; try (first | rfl | (rw [IntKind.wrap_i64]; omega)))⟩) (HS1.out _ ((Kept.refl (fun _ => False) wc).drew)) ?_; (try go_simp)
              refine wpAnyH_take (i := 3) (v := (.slice x1 i d1)) rfl (by kernel_rfl) (by kernel_rfl) (by kernel_rfl) (fun _ _ _ h => h) (Or.inl ⟨by rfl, (by intro w hSw; obtain ⟨j0, j1⟩ := hSw; go_simp; try (first | rfl | (rw [IntKind.wrap_i64]; omega)))⟩) (HS1.out _ ((Kept.refl (fun _ => False) wc).drew)) ?_; (try go_simp)
              refine wpAnyH_take (i := 4) (v := (.pointer (some ⟨g, 3, none⟩))) rfl (by kernel_rfl) (by kernel_rfl) (by kernel_rfl) (fun _ _ _ h => h) (Or.inl ⟨by rfl, (by intro w hSw; obtain ⟨j0, j1⟩ := hSw; go_simp; try (first | rfl | (rw [IntKind.wrap_i64]; omega)))⟩) (HS1.out _ ((Kept.refl (fun _ => False) wc).drew)) ?_; (try go_simp)
              refine wpAnyH_take (i := 5) (v := (.slice p3 k3 d3)) rfl (by kernel_rfl) (by kernel_rfl) (by kernel_rfl) (fun _ _ _ h => h) (Or.inl ⟨by rfl, (by intro w hSw; obtain ⟨j0, j1⟩ := hSw; go_simp; try (first | rfl | (rw [IntKind.wrap_i64]; omega)))⟩) (HS1.out _ ((Kept.refl (fun _ => False) wc).drew)) ?_; (try go_simp)
              refine wpAnyH_take (i := 6) (v := (.int .i64 i)) rfl (by kernel_rfl) (by kernel_rfl) (by kernel_rfl) (fun _ _ _ h => h) (Or.inl ⟨by rfl, (by intro w hSw; obtain ⟨j0, j1⟩ := hSw; go_simp; try (first | rfl | (rw [IntKind.wrap_i64]; omega)))⟩) (HS1.out _ ((Kept.refl (fun _ => False) wc).drew)) ?_; (try go_simp)
              refine wpAnyH_take (i := 7) (v := (.int .i64 ((i : Int) + 1))) rfl (by kernel_rfl) (by kernel_rfl) (by kernel_rfl) (fun _ _ _ h => h) (Or.inl ⟨by rfl, (by intro w hSw; obtain ⟨j0, j1⟩ := hSw; go_simp; try (first | rfl | (rw [IntKind.wrap_i64]; omega)))⟩) (HS1.out _ ((Kept.refl (fun _ => False) wc).drew)) ?_; (try go_simp)
              refine wpAnyH_take (i := 8) (v := (.slice x2 (i + 1) d3)) rfl (by kernel_rfl) (by kernel_rfl) (by kernel_rfl) (fun _ _ _ h => h) (Or.inl ⟨by rfl, (by intro w hSw; obtain ⟨j0, j1⟩ := hSw; go_simp; try (first | rfl | (rw [IntKind.wrap_i64]; omega)))⟩) (HS1.out _ ((Kept.refl (fun _ => False) wc).drew)) ?_; (try go_simp)
              refine wpAnyH_take (i := 9) (v := (.agg #[.bool false, .slice x1 i d1, .slice none 0 0, .slice x2 (i + 1) d3])) rfl (by kernel_rfl) (by kernel_rfl) (by kernel_rfl) (fun _ _ _ h => h) (Or.inl ⟨by rfl, (by intro w hSw; obtain ⟨j0, j1⟩ := hSw; go_simp; try (first | rfl | (rw [IntKind.wrap_i64]; omega)))⟩) (HS1.out _ ((Kept.refl (fun _ => False) wc).drew)) ?_; (try go_simp)
              refine wpAnyH_ready (rs := [10]) (by kernel_rfl) (by simp) ?_
              refine (AllReadyH.cons rfl (fun K hK => ?_) AllReadyH.nil)
              go_simp
              refine hK.out _ _ (HS1.out _ (((Kept.refl (fun _ => False) wc).drew).alloc _)) (fun _ => ?_); clear hK K; (try go_simp)
              refine wpAnyH_ready (rs := [11]) (by kernel_rfl) (by simp) ?_
              refine (AllReadyH.cons rfl (fun K hK => ?_) AllReadyH.nil)
              go_simp
              refine hK.out _ _ (HS1.out _ (((Kept.refl (fun _ => False) wc).drew).alloc _)) (fun _ => ?_); clear hK K; (try go_simp)
              refine wpAnyH_done (by kernel_rfl) ?_ _
              have Bg14 := hidden (blk_new wc (.cells #[.bool false, .slice x1 i d1, .slice none 0 0, .slice x2 (i + 1) d3] 25))
              have KA : Same wc (wc.alloc (.cells #[.bool false, .slice x1 i d1, .slice none 0 0, .slice x2 (i + 1) d3] 25)).drew := ((Kept.refl (fun _ => False) wc).alloc _).drew
              have CP1 := hidden (CP1.out.same KA)
              have CP2 := hidden (CP2.out.same KA)
              have BH := hidden (blk_kept KA (fun h => h) BH.out)
              have zs := KC.out.size
              have KC := hidden (KC.out.trans KA)
              clear KA HS1
              change Hid ((wc.alloc (.cells #[.bool false, .slice x1 i d1, .slice none 0 0, .slice x2 (i + 1) d3] 25)).drew.heap[wc.heap.size]? = _) at Bg14
              generalize (wc.alloc (.cells #[.bool false, .slice x1 i d1, .slice none 0 0, .slice x2 (i + 1) d3] 25)).drew = X1 at *
              generalize wc.heap.size = g14 at *
              go_wp2
              have HS2 : Hid (∀ W, Same X1 W → (fun W : World => W.cell? ⟨h, 1, none⟩ = some (.slice q1 k1 f1) ∧ W.cell? ⟨h, 3, none⟩ = some (.slice q3 k3 f3)) W) := hidden (fun W kk => ⟨(blk_cell (blk_kept kk (fun h => h) BH.out)).trans rfl, (blk_cell (blk_kept kk (fun h => h) BH.out)).trans rfl⟩)
              refine wp_region_held_drew (S := (fun W : World => W.cell? ⟨h, 1, none⟩ = some (.slice q1 k1 f1) ∧ W.cell? ⟨h, 3, none⟩ = some (.slice q3 k3 f3))) hmx (HS2.out _ ((Kept.refl (fun _ => False) X1).drew)) (fun _ => ?_)
              refine wpAnyH_take (i := 0) (v := (.pointer (some ⟨h, 1, none⟩))) rfl (by kernel_rfl) (by kernel_rfl) (by kernel_rfl) (fun _ _ _ h => h) (Or.inl ⟨by rfl, (by intro w hSw; obtain ⟨j0, j1⟩ := hSw; go_simp; try (first | rfl | (rw [IntKind.wrap_i64]; omega)))⟩) (HS2.out _ ((Kept.refl (fun _ => False) X1).drew)) ?_; (try go_simp)
              refine wpAnyH_take (i := 1) (v := (.slice q1 k1 f1)) rfl (by kernel_rfl) (by kernel_rfl) (by kernel_rfl) (fun _ _ _ h => h) (Or.inl ⟨by rfl, (by intro w hSw; obtain ⟨j0, j1⟩ := hSw; go_simp; try (first | rfl | (rw [IntKind.wrap_i64]; omega)))⟩) (HS2.out _ ((Kept.refl (fun _ => False) X1).drew)) ?_; (try go_simp)
              refine wpAnyH_take (i := 2) (v := (.int .i64 i)) rfl (by kernel_rfl) (by kernel_rfl) (by kernel_rfl) (fun _ _ _ h => h) (Or.inl ⟨by rfl, (by intro w hSw; obtain ⟨j0, j1⟩ := hSw; go_simp; try (first | rfl | (rw [IntKind.wrap_i64]; omega)))⟩) (HS2.out _ ((Kept.refl (fun _ => False) X1).drew)) ?_; (try go_simp)
              refine wpAnyH_take (i := 3) (v := (.int .i64 ((i : Int) + 1))) rfl (by kernel_rfl) (by kernel_rfl) (by kernel_rfl) (fun _ _ _ h => h) (Or.inl ⟨by rfl, (by intro w hSw; obtain ⟨j0, j1⟩ := hSw; go_simp; try (first | rfl | (rw [IntKind.wrap_i64]; omega)))⟩) (HS2.out _ ((Kept.refl (fun _ => False) X1).drew)) ?_; (try go_simp)
              refine wpAnyH_take (i := 4) (v := (.slice y1 (k1 - (i + 1)) (f1 - (i + 1)))) rfl (by kernel_rfl) (by kernel_rfl) (by kernel_rfl) (fun _ _ _ h => h) (Or.inl ⟨by rfl, (by intro w hSw; obtain ⟨j0, j1⟩ := hSw; go_simp; try (first | rfl | (rw [IntKind.wrap_i64]; omega)))⟩) (HS2.out _ ((Kept.refl (fun _ => False) X1).drew)) ?_; (try go_simp)
              refine wpAnyH_take (i := 5) (v := (.pointer (some ⟨h, 3, none⟩))) rfl (by kernel_rfl) (by kernel_rfl) (by kernel_rfl) (fun _ _ _ h => h) (Or.inl ⟨by rfl, (by intro w hSw; obtain ⟨j0, j1⟩ := hSw; go_simp; try (first | rfl | (rw [IntKind.wrap_i64]; omega)))⟩) (HS2.out _ ((Kept.refl (fun _ => False) X1).drew)) ?_; (try go_simp)
              refine wpAnyH_take (i := 6) (v := (.slice q3 k3 f3)) rfl (by kernel_rfl) (by kernel_rfl) (by kernel_rfl) (fun _ _ _ h => h) (Or.inl ⟨by rfl, (by intro w hSw; obtain ⟨j0, j1⟩ := hSw; go_simp; try (first | rfl | (rw [IntKind.wrap_i64]; omega)))⟩) (HS2.out _ ((Kept.refl (fun _ => False) X1).drew)) ?_; (try go_simp)
              refine wpAnyH_take (i := 7) (v := (.int .i64 i)) rfl (by kernel_rfl) (by kernel_rfl) (by kernel_rfl) (fun _ _ _ h => h) (Or.inl ⟨by rfl, (by intro w hSw; obtain ⟨j0, j1⟩ := hSw; go_simp; try (first | rfl | (rw [IntKind.wrap_i64]; omega)))⟩) (HS2.out _ ((Kept.refl (fun _ => False) X1).drew)) ?_; (try go_simp)
              refine wpAnyH_take (i := 8) (v := (.int .i64 ((i : Int) + 1))) rfl (by kernel_rfl) (by kernel_rfl) (by kernel_rfl) (fun _ _ _ h => h) (Or.inl ⟨by rfl, (by intro w hSw; obtain ⟨j0, j1⟩ := hSw; go_simp; try (first | rfl | (rw [IntKind.wrap_i64]; omega)))⟩) (HS2.out _ ((Kept.refl (fun _ => False) X1).drew)) ?_; (try go_simp)
              refine wpAnyH_take (i := 9) (v := (.slice y2 (k3 - (i + 1)) (f3 - (i + 1)))) rfl (by kernel_rfl) (by kernel_rfl) (by kernel_rfl) (fun _ _ _ h => h) (Or.inl ⟨by rfl, (by intro w hSw; obtain ⟨j0, j1⟩ := hSw; go_simp; try (first | rfl | (rw [IntKind.wrap_i64]; omega)))⟩) (HS2.out _ ((Kept.refl (fun _ => False) X1).drew)) ?_; (try go_simp)
              refine wpAnyH_take (i := 10) (v := (.agg #[.bool false, .slice y1 (k1 - (i + 1)) (f1 - (i + 1)), .slice none 0 0, .slice y2 (k3 - (i + 1)) (f3 - (i + 1))])) rfl (by kernel_rfl) (by kernel_rfl) (by kernel_rfl) (fun _ _ _ h => h) (Or.inl ⟨by rfl, (by intro w hSw; obtain ⟨j0, j1⟩ := hSw; go_simp; try (first | rfl | (rw [IntKind.wrap_i64]; omega)))⟩) (HS2.out _ ((Kept.refl (fun _ => False) X1).drew)) ?_; (try go_simp)
              refine wpAnyH_ready (rs := [11]) (by kernel_rfl) (by simp) ?_
              refine (AllReadyH.cons rfl (fun K hK => ?_) AllReadyH.nil)
              go_simp
              refine hK.out _ _ (HS2.out _ (((Kept.refl (fun _ => False) X1).drew).alloc _)) (fun _ => ?_); clear hK K; (try go_simp)
              refine wpAnyH_ready (rs := [12]) (by kernel_rfl) (by simp) ?_
              refine (AllReadyH.cons rfl (fun K hK => ?_) AllReadyH.nil)
              go_simp
              refine hK.out _ _ (HS2.out _ (((Kept.refl (fun _ => False) X1).drew).alloc _)) (fun _ => ?_); clear hK K; (try go_simp)
              refine wpAnyH_done (by kernel_rfl) ?_ _
              have Bg15 := hidden (blk_new X1 (.cells #[.bool false, .slice y1 (k1 - (i + 1)) (f1 - (i + 1)), .slice none 0 0, .slice y2 (k3 - (i + 1)) (f3 - (i + 1))] 25))
              have KA : Same X1 (X1.alloc (.cells #[.bool false, .slice y1 (k1 - (i + 1)) (f1 - (i + 1)), .slice none 0 0, .slice y2 (k3 - (i + 1)) (f3 - (i + 1))] 25)).drew := ((Kept.refl (fun _ => False) X1).alloc _).drew
              have CP1 := hidden (CP1.out.same KA)
              have CP2 := hidden (CP2.out.same KA)
              have BH := hidden (blk_kept KA (fun h => h) BH.out)
              have Bg14 := hidden (blk_kept KA (fun h => h) Bg14.out)
              have zs := KC.out.size
              have KC := hidden (KC.out.trans KA)
              clear KA HS2
              change Hid ((X1.alloc (.cells #[.bool false, .slice y1 (k1 - (i + 1)) (f1 - (i + 1)), .slice none 0 0, .slice y2 (k3 - (i + 1)) (f3 - (i + 1))] 25)).drew.heap[X1.heap.size]? = _) at Bg15
              generalize (X1.alloc (.cells #[.bool false, .slice y1 (k1 - (i + 1)) (f1 - (i + 1)), .slice none 0 0, .slice y2 (k3 - (i + 1)) (f3 - (i + 1))] 25)).drew = X2 at *
              generalize X1.heap.size = g15 at *
              go_wp2
              have hck2 := K0.out.cell (fun h => h) HCK.out
              have bxX := blk_kept KC.out (fun h => h) BX.out
              have hck3 := KC.out.cell (fun h => h) hck2
              have HS3 : Hid (∀ W, Kept (fun k => k = w.heap.size + 1 ∨ k = w.heap.size + 2) X2 W → (fun W : World => W.cell? ⟨g14, 0, none⟩ = some (.bool false) ∧ W.cell? ⟨g14, 1, none⟩ = some (.slice x1 i d1) ∧ W.cell? ⟨g14, 2, none⟩ = some (.slice none 0 0) ∧ W.cell? ⟨g14, 3, none⟩ = some (.slice x2 (i + 1) d3) ∧ W.cell? ⟨g15, 0, none⟩ = some (.bool false) ∧ W.cell? ⟨g15, 1, none⟩ = some (.slice y1 (k1 - (i + 1)) (f1 - (i + 1))) ∧ W.cell? ⟨g15, 2, none⟩ = some (.slice none 0 0) ∧ W.cell? ⟨g15, 3, none⟩ = some (.slice y2 (k3 - (i + 1)) (f3 - (i + 1))) ∧ W.cell? ⟨w.heap.size, 1, none⟩ = some (.slice (some ⟨bk, off, none⟩) k1 c1) ∧ W.cell? ⟨bk, off + i, none⟩ = some (.string kx)) W) := hidden (fun W kk => ⟨(blk_cell (blk_kept kk (fun h => by omega) Bg14.out)).trans rfl, (blk_cell (blk_kept kk (fun h => by omega) Bg14.out)).trans rfl, (blk_cell (blk_kept kk (fun h => by omega) Bg14.out)).trans rfl, (blk_cell (blk_kept kk (fun h => by omega) Bg14.out)).trans rfl, (blk_cell (blk_kept kk (fun h => by omega) Bg15.out)).trans rfl, (blk_cell (blk_kept kk (fun h => by omega) Bg15.out)).trans rfl, (blk_cell (blk_kept kk (fun h => by omega) Bg15.out)).trans rfl, (blk_cell (blk_kept kk (fun h => by omega) Bg15.out)).trans rfl, (blk_cell (blk_kept kk (fun h => by omega) bxX)).trans rfl, kk.cell (fun h => by change bk = _ ∨ bk = _ at h; omega) hck3⟩)
              clear hck2 hck3 bxX
              have HW : Hid (∀ W, Same X2 W → Kept (fun k => k = w.heap.size + 1 ∨ k = w.heap.size + 2) X2 W) := hidden (fun W k => k.mono (fun i _ h => False.elim h))
              have BY4 := hidden (blk_kept KC.out.drew (fun h => h) BY.out)
              have BZ4 := hidden (blk_kept KC.out.drew (fun h => h) BZ.out)
              refine wp_region_held_drew (S := (fun W : World => W.cell? ⟨g14, 0, none⟩ = some (.bool false) ∧ W.cell? ⟨g14, 1, none⟩ = some (.slice x1 i d1) ∧ W.cell? ⟨g14, 2, none⟩ = some (.slice none 0 0) ∧ W.cell? ⟨g14, 3, none⟩ = some (.slice x2 (i + 1) d3) ∧ W.cell? ⟨g15, 0, none⟩ = some (.bool false) ∧ W.cell? ⟨g15, 1, none⟩ = some (.slice y1 (k1 - (i + 1)) (f1 - (i + 1))) ∧ W.cell? ⟨g15, 2, none⟩ = some (.slice none 0 0) ∧ W.cell? ⟨g15, 3, none⟩ = some (.slice y2 (k3 - (i + 1)) (f3 - (i + 1))) ∧ W.cell? ⟨w.heap.size, 1, none⟩ = some (.slice (some ⟨bk, off, none⟩) k1 c1) ∧ W.cell? ⟨bk, off + i, none⟩ = some (.string kx))) hmx (HS3.out _ (HW.out _ (Kept.refl _ X2).drew)) (fun _ => ?_)
              refine wpAnyH_take (i := 0) (v := (.agg #[.bool false, .slice x1 i d1, .slice none 0 0, .slice x2 (i + 1) d3])) rfl (by kernel_rfl) (by kernel_rfl) (by kernel_rfl) (fun _ _ _ h => h) (Or.inl ⟨by rfl, (by intro w hSw; obtain ⟨j0, j1, j2, j3, j4, j5, j6, j7, j8, j9⟩ := hSw; go_simp; try (first | rfl | (rw [IntKind.wrap_i64]; omega)))⟩) (HS3.out _ (HW.out _ (Kept.refl _ X2).drew)) ?_; (try go_simp)
              refine wpAnyH_take (i := 1) (v := (.pointer (some ⟨w.heap.size, 1, none⟩))) rfl (by kernel_rfl) (by kernel_rfl) (by kernel_rfl) (fun _ _ _ h => h) (Or.inl ⟨by rfl, (by intro w hSw; obtain ⟨j0, j1, j2, j3, j4, j5, j6, j7, j8, j9⟩ := hSw; go_simp; try (first | rfl | (rw [IntKind.wrap_i64]; omega)))⟩) (HS3.out _ (HW.out _ (Kept.refl _ X2).drew)) ?_; (try go_simp)
              refine wpAnyH_take (i := 2) (v := (.slice (some ⟨bk, off, none⟩) k1 c1)) rfl (by kernel_rfl) (by kernel_rfl) (by kernel_rfl) (fun _ _ _ h => h) (Or.inl ⟨by rfl, (by intro w hSw; obtain ⟨j0, j1, j2, j3, j4, j5, j6, j7, j8, j9⟩ := hSw; go_simp; try (first | rfl | (rw [IntKind.wrap_i64]; omega)))⟩) (HS3.out _ (HW.out _ (Kept.refl _ X2).drew)) ?_; (try go_simp)
              refine wpAnyH_take (i := 3) (v := (.int .i64 i)) rfl (by kernel_rfl) (by kernel_rfl) (by kernel_rfl) (fun _ _ _ h => h) (Or.inl ⟨by rfl, (by intro w hSw; obtain ⟨j0, j1, j2, j3, j4, j5, j6, j7, j8, j9⟩ := hSw; go_simp; try (first | rfl | (rw [IntKind.wrap_i64]; omega)))⟩) (HS3.out _ (HW.out _ (Kept.refl _ X2).drew)) ?_; (try go_simp)
              refine wpAnyH_take (i := 4) (v := (.pointer (some ⟨bk, off + i, none⟩))) rfl (by kernel_rfl) (by kernel_rfl) (by kernel_rfl) (fun _ _ _ h => h) (Or.inl ⟨by rfl, (by intro w hSw; obtain ⟨j0, j1, j2, j3, j4, j5, j6, j7, j8, j9⟩ := hSw; go_simp; try (first | rfl | (rw [IntKind.wrap_i64]; omega)))⟩) (HS3.out _ (HW.out _ (Kept.refl _ X2).drew)) ?_; (try go_simp)
              refine wpAnyH_take (i := 5) (v := (.string kx)) rfl (by kernel_rfl) (by kernel_rfl) (by kernel_rfl) (fun _ _ _ h => h) (Or.inl ⟨by rfl, (by intro w hSw; obtain ⟨j0, j1, j2, j3, j4, j5, j6, j7, j8, j9⟩ := hSw; go_simp; try (first | rfl | (rw [IntKind.wrap_i64]; omega)))⟩) (HS3.out _ (HW.out _ (Kept.refl _ X2).drew)) ?_; (try go_simp)
              refine wpAnyH_take (i := 6) (v := (.agg #[.bool false, .slice y1 (k1 - (i + 1)) (f1 - (i + 1)), .slice none 0 0, .slice y2 (k3 - (i + 1)) (f3 - (i + 1))])) rfl (by kernel_rfl) (by kernel_rfl) (by kernel_rfl) (fun _ _ _ h => h) (Or.inl ⟨by rfl, (by intro w hSw; obtain ⟨j0, j1, j2, j3, j4, j5, j6, j7, j8, j9⟩ := hSw; go_simp; try (first | rfl | (rw [IntKind.wrap_i64]; omega)))⟩) (HS3.out _ (HW.out _ (Kept.refl _ X2).drew)) ?_; (try go_simp)
              have CP1 := hidden (CP1.out.same ((Kept.refl (fun _ => False) X2).drew))
              have CP2 := hidden (CP2.out.same ((Kept.refl (fun _ => False) X2).drew))
              have KD := hidden (KC.out.drew)
              have KR := hidden (Kept.refl (fun _ => False) X2).drew
              generalize X2.drew = X3 at *
              have e0 := blk_cell (j := 0) BY4.out; have e1 := blk_cell (j := 1) BY4.out; have e2 := blk_cell (j := 2) BY4.out; have e3 := blk_cell (j := 3) BY4.out; simp at e0 e1 e2 e3
              have b0 := blk_cell (j := 0) BZ4.out; have b1 := blk_cell (j := 1) BZ4.out; have b2 := blk_cell (j := 2) BZ4.out; have b3 := blk_cell (j := 3) BZ4.out; simp at b0 b1 b2 b3
              have ef := (fun j => blk_free (j := j) BY4.out)
              have bf := (fun j => blk_free (j := j) BZ4.out)
              refine wpAnyH_ready (rs := [7]) (by kernel_rfl) (by simp) ?_
              refine (AllReadyH.cons rfl (fun K hK => ?_) AllReadyH.nil)
              go_simp
              refine hK.out _ _ (HS3.out _ ((HW.out _ KR.out).put4 (g := w.heap.size + 1) (.inl rfl) _ _ _ _)) (fun _ => ?_); clear hK K; (try go_simp)
              refine wpAnyH_ready (rs := [8]) (by kernel_rfl) (by simp) ?_
              refine (AllReadyH.cons rfl (fun K hK => ?_) AllReadyH.nil)
              go_simp
              refine hK.out _ _ (HS3.out _ ((HW.out _ KR.out).put4 (g := w.heap.size + 1) (.inl rfl) _ _ _ _)) (fun _ => ?_); clear hK K; (try go_simp)
              refine wpAnyH_ready (rs := [9]) (by kernel_rfl) (by simp) ?_
              refine (AllReadyH.cons rfl (fun K hK => ?_) AllReadyH.nil)
              go_simp
              refine hK.out _ _ (HS3.out _ (((HW.out _ KR.out).put4 (g := w.heap.size + 1) (.inl rfl) _ _ _ _).put4 (g := w.heap.size + 2) (.inr rfl) _ _ _ _)) (fun _ => ?_); clear hK K; (try go_simp)
              refine wpAnyH_ready (rs := [10]) (by kernel_rfl) (by simp) ?_
              refine (AllReadyH.cons rfl (fun K hK => ?_) AllReadyH.nil)
              go_simp
              refine hK.out _ _ (HS3.out _ (((HW.out _ KR.out).put4 (g := w.heap.size + 1) (.inl rfl) _ _ _ _).put4 (g := w.heap.size + 2) (.inr rfl) _ _ _ _)) (fun _ => ?_); clear hK K; (try go_simp)
              refine wpAnyH_done (by kernel_rfl) ?_ _
              have kf := kept_fill8 (W := X3) (g := w.heap.size + 1) (h := w.heap.size + 2) (.bool false) (.slice x1 i d1) (.slice none 0 0) (.slice x2 (i + 1) d3) (.bool false) (.slice y1 (k1 - (i + 1)) (f1 - (i + 1))) (.slice none 0 0) (.slice y2 (k3 - (i + 1)) (f3 - (i + 1)))
              have hf := fill8 BY4.out BZ4.out (by omega) (.bool false) (.slice x1 i d1) (.slice none 0 0) (.slice x2 (i + 1) d3) (.bool false) (.slice y1 (k1 - (i + 1)) (f1 - (i + 1))) (.slice none 0 0) (.slice y2 (k3 - (i + 1)) (f3 - (i + 1)))
              have kfin := hidden (show Same w _ from (K0.out.trans KD.out).trans' kf (fun i hi hs => by omega))
              have F1 := hidden (CP1.out.kept kf BY4.out BZ4.out)
              have F2 := hidden (CP2.out.kept kf BY4.out BZ4.out)
              clear kf e0 e1 e2 e3 b0 b1 b2 b3 ef bf HS3 HW
              generalize ((((((((X3.setCell ⟨w.heap.size + 1, 0, none⟩ (.bool false)).setCell ⟨w.heap.size + 1, 1, none⟩ (.slice x1 i d1)).setCell ⟨w.heap.size + 1, 2, none⟩ (.slice none 0 0)).setCell ⟨w.heap.size + 1, 3, none⟩ (.slice x2 (i + 1) d3)).setCell ⟨w.heap.size + 2, 0, none⟩ (.bool false)).setCell ⟨w.heap.size + 2, 1, none⟩ (.slice y1 (k1 - (i + 1)) (f1 - (i + 1)))).setCell ⟨w.heap.size + 2, 2, none⟩ (.slice none 0 0)).setCell ⟨w.heap.size + 2, 3, none⟩ (.slice y2 (k3 - (i + 1)) (f3 - (i + 1)))) = WF at *
              have v0 := blk_cell (j := 0) hf.1; have v1 := blk_cell (j := 1) hf.1; have v2 := blk_cell (j := 2) hf.1; have v3 := blk_cell (j := 3) hf.1; simp at v0 v1 v2 v3
              have o0 := blk_cell (j := 0) hf.2; have o1 := blk_cell (j := 1) hf.2; have o2 := blk_cell (j := 2) hf.2; have o3 := blk_cell (j := 3) hf.2; simp at o0 o1 o2 o3
              go_wp2
              refine bodyPost_ret (v := .tuple #[.agg #[.bool false, .slice x1 i d1, .slice none 0 0, .slice x2 (i + 1) d3], .string kx, .agg #[.bool false, .slice y1 (k1 - (i + 1)) (f1 - (i + 1)), .slice none 0 0, .slice y2 (k3 - (i + 1)) (f3 - (i + 1))], .int .i64 0]) (by simp [results, Tryd.results28, go_sem, v0, v1, v2, v3, o0, o1, o2, o3]) rfl ⟨_, rfl, ⟨_, _, rfl, ?_, ?_, kfin.out⟩⟩
              · skip
                have h1 := (Row.own F1.out.r1).partS (lo := 0) (hi := i) (by omega) (by omega)
                have h2 := (Row.own F1.out.r3).partI (lo := 0) (hi := i + 1) (by omega) (by have := HKK.out; omega)
                rw [HX1.out] at h1
                rw [HX2.out] at h2
                unfold Nd.sub
                rw [HL.out]
                simp only [Nat.sub_zero] at h1 h2 ⊢
                exact NdR.mk' h1 (Row.nil _) h2
              · skip
                have h1 := (Row.own F2.out.r1).partS (lo := i + 1) (hi := k1) (by omega) (by omega)
                have h2 := (Row.own F2.out.r3).partI (lo := i + 1) (hi := k3) (by have := HKK.out; omega) (by omega)
                rw [HY1.out] at h1
                rw [HY2.out] at h2
                unfold Nd.sub
                rw [HL.out, E1.out]
                rw [show ((n.kids.drop (i + 1)).take (k3 - (i + 1))) = (n.kids.drop (i + 1)).take (k1 + 1 - (i + 1)) by rw [HKK.out]] at h2
                exact NdR.mk' h1 (Row.nil _) h2
end Go.Proofs.YtpjgghalnkfdkaaDoor
