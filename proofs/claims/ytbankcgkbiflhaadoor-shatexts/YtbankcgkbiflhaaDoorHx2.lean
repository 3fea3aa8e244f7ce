/- The document's Hex, walked. -/
import Derived.Test.YtbankcgkbiflhaaDoorSh8
import Derived.Test.YtbankcgkbiflhaaDoorShS
import Derived.Deep.RegionHeld
namespace Go.Proofs.YtbankcgkbiflhaaDoor
open Go.RowKit
set_option linter.unusedVariables false
attribute [local go_sem ↓] Go.wp_at_zero Go.wp_at_succ

set_option maxHeartbeats 2000000 in
set_option maxRecDepth 100000 in
theorem hexD_any (l : List UInt8) (hl : l.length = 32) (w : World) : Calls Tryd.prog 16 #[.agg (l.map U8).toArray] w fun e w' => e = .returned (.string ⟨(hexOf l).toArray⟩) ∧ Same w w' := by
  obtain ⟨i0, hi, hz0, hz1, hz2⟩ := info_parts info5
  have HL := hidden hl
  have HBa := hidden (bytes_at l)
  obtain ⟨C, hC⟩ : ∃ C, C = (l.map U8).toArray := ⟨_, rfl⟩
  rw [← hC] at HBa ⊢
  clear hC hl
  obtain ⟨g, hg⟩ : ∃ g, w.heap.size = g := ⟨_, rfl⟩
  obtain ⟨hS, hhS⟩ : ∃ h, h = hexS := ⟨_, rfl⟩
  go_enter Tryd.func16, Tryd.ntmps16
  go_wp2
  change Code.wp _ _ _ _ _
  go_loopw [4, 5] (fun u x wr => ∃ i : Nat, i ≤ 32 ∧ x = .int .i64 i ∧ wr.ownsRow (g + 1) 5 1 u (2 * i) ((hexOf (l.take i)).map U8) ∧ wr.heap[g]? = some (.cells C 24 (0, 0)) ∧ Same w wr) (fun _ x _ => 32 - (intOf x).toNat)
  case atStart => exact ⟨0, by omega, rfl, ⟨rfl, Or.inl ⟨rfl, rfl⟩⟩, by rw [← hg]; exact blk_new w _, same_alloc _ _⟩
  case round =>
    obtain ⟨i, hi32, rfl, hown, hbC, hSm⟩ := hrel
    have HS := hidden hSm
    have HO := hidden hown
    have HbC := hidden hbC
    by_cases hlt : i < 32
    · have HX : Hid (hexOf (l.take (i + 1)) = hexOf (l.take i) ++ [hd ((l.getD i 0).toNat / 16), hd ((l.getD i 0).toNat % 16)]) := hidden (by
        have hl := HL.out
        rw [List.take_succ_eq_append_getElem (by omega), hexOf_snoc, List.getD_eq_getElem?_getD, List.getElem?_eq_getElem (by omega)]
        rfl)
      have hcell : wr.cell? ⟨g, i, none⟩ = some (.int .u8 ((l.getD i 0).toNat : Nat)) := (blk_cell hbC).trans (HBa.out i (by rw [HL.out]; exact hlt))
      have hb := (l.getD i 0).toNat_lt
      generalize (l.getD i 0).toNat = b at *
      have HSc : Hid (∀ W, Kept (fun k => g + 1 ≤ k) wr W → (fun w' : World => w'.cell? ⟨g, i, none⟩ = some (.int .u8 (b : Int))) W) := hidden (fun W k => Kept.cell k (show ¬ g + 1 ≤ g by omega) hcell)
      have k1 : (i : Int) < 32 := by omega
      have e1 : IntKind.i64.wrap (i : Int) = (i : Int) := by rw [IntKind.wrap_i64]; omega
      obtain ⟨n1, hn1⟩ : ∃ n1, n1 = b / 16 := ⟨_, rfl⟩
      obtain ⟨n2, hn2⟩ : ∃ n2, n2 = b % 16 := ⟨_, rfl⟩
      have H1 := hidden (fun W => run_hex W .u8 n1 (by omega))
      have H2 := hidden (fun W => run_hex W .u8 n2 (by omega))
      rw [← hn1, ← hn2] at HX
      have a1 : (b : Int) / 16 = (n1 : Int) := by omega
      have a1' : (b : Int).tdiv 16 = (n1 : Int) := by rw [Int.tdiv_eq_ediv_of_nonneg (by omega)]; omega
      have a2 : (b : Int) % 16 = (n2 : Int) := by omega
      have a2' : (b : Int).tmod 16 = (n2 : Int) := by rw [Int.tmod_eq_emod_of_nonneg (by omega)]; omega
      have a3 : IntKind.u8.wrap (n1 : Int) = (n1 : Int) := by rw [IntKind.wrap_u8']; omega
      have a4 : IntKind.u8.wrap (n2 : Int) = (n2 : Int) := by rw [IntKind.wrap_u8']; omega
      have Hm1 : Hid (2 * i + 2 ≤ maxLen) := hidden (by unfold maxLen; omega)
      have Hsz : Hid (g + 1 ≤ wr.heap.size) := hidden (blk_lt hbC)
      clear hown hSm hn1 hn2 hbC
      go_wp2
      refine wp_region_held_drew (S := (fun w' : World => w'.cell? ⟨g, i, none⟩ = some (.int .u8 (b : Int)))) hmx (HSc.out _ (Kept.refl _ _).drew) (fun _ => ?_)
      refine wpAnyH_take (i := 0) (v := u4) rfl (by kernel_rfl) (by kernel_rfl) (by kernel_rfl) (fun _ _ _ h => h) (Or.inl ⟨by rfl, (by intro w hSw; have hS' : w.cell? ⟨g, i, none⟩ = some (.int .u8 (b : Int)) := hSw; go_simp; try rfl)⟩) (HSc.out _ (Kept.refl _ _).drew) ?_; (try go_simp)
      refine wpAnyH_take (i := 1) (v := (.string hexS)) rfl (by kernel_rfl) (by kernel_rfl) (by kernel_rfl) (fun _ _ _ h => h) (Or.inl ⟨by rfl, (by intro w hSw; have hS' : w.cell? ⟨g, i, none⟩ = some (.int .u8 (b : Int)) := hSw; go_simp; try rfl)⟩) (HSc.out _ (Kept.refl _ _).drew) ?_; (try go_simp)
      refine wpAnyH_take (i := 2) (v := (.int .i64 (i : Int))) rfl (by kernel_rfl) (by kernel_rfl) (by kernel_rfl) (fun _ _ _ h => h) (Or.inl ⟨by rfl, (by intro w hSw; have hS' : w.cell? ⟨g, i, none⟩ = some (.int .u8 (b : Int)) := hSw; go_simp; try rfl)⟩) (HSc.out _ (Kept.refl _ _).drew) ?_; (try go_simp)
      refine wpAnyH_take (i := 3) (v := (.pointer (some ⟨g, i, none⟩))) rfl (by kernel_rfl) (by kernel_rfl) (by kernel_rfl) (fun _ _ _ h => h) (Or.inl ⟨by rfl, (by intro w hSw; have hS' : w.cell? ⟨g, i, none⟩ = some (.int .u8 (b : Int)) := hSw; go_simp; try rfl)⟩) (HSc.out _ (Kept.refl _ _).drew) ?_; (try go_simp)
      refine wpAnyH_take (i := 4) (v := (.int .u8 (b : Int))) rfl (by kernel_rfl) (by kernel_rfl) (by kernel_rfl) (fun _ _ _ h => h) (Or.inl ⟨by rfl, (by intro w hSw; have hS' : w.cell? ⟨g, i, none⟩ = some (.int .u8 (b : Int)) := hSw; go_simp; try rfl)⟩) (HSc.out _ (Kept.refl _ _).drew) ?_; (try go_simp)
      refine wpAnyH_take (i := 5) (v := (.int .u8 (n1 : Int))) rfl (by kernel_rfl) (by kernel_rfl) (by kernel_rfl) (fun _ _ _ h => h) (Or.inl ⟨by rfl, (by intro w hSw; have hS' : w.cell? ⟨g, i, none⟩ = some (.int .u8 (b : Int)) := hSw; go_simp; try rfl)⟩) (HSc.out _ (Kept.refl _ _).drew) ?_; (try go_simp)
      refine wpAnyH_take (i := 6) (v := (.int .u8 ((hd n1).toNat : Int))) rfl (by kernel_rfl) (by kernel_rfl) (by kernel_rfl) (fun _ _ _ h => h) (Or.inl ⟨by rfl, (fun w _ => yi rfl rfl rfl H1.out w)⟩) (HSc.out _ (Kept.refl _ _).drew) ?_; (try go_simp)
      refine wpAnyH_take (i := 7) (v := (.string hexS)) rfl (by kernel_rfl) (by kernel_rfl) (by kernel_rfl) (fun _ _ _ h => h) (Or.inl ⟨by rfl, (by intro w hSw; have hS' : w.cell? ⟨g, i, none⟩ = some (.int .u8 (b : Int)) := hSw; go_simp; try rfl)⟩) (HSc.out _ (Kept.refl _ _).drew) ?_; (try go_simp)
      refine wpAnyH_take (i := 8) (v := (.int .i64 (i : Int))) rfl (by kernel_rfl) (by kernel_rfl) (by kernel_rfl) (fun _ _ _ h => h) (Or.inl ⟨by rfl, (by intro w hSw; have hS' : w.cell? ⟨g, i, none⟩ = some (.int .u8 (b : Int)) := hSw; go_simp; try rfl)⟩) (HSc.out _ (Kept.refl _ _).drew) ?_; (try go_simp)
      refine wpAnyH_take (i := 9) (v := (.pointer (some ⟨g, i, none⟩))) rfl (by kernel_rfl) (by kernel_rfl) (by kernel_rfl) (fun _ _ _ h => h) (Or.inl ⟨by rfl, (by intro w hSw; have hS' : w.cell? ⟨g, i, none⟩ = some (.int .u8 (b : Int)) := hSw; go_simp; try rfl)⟩) (HSc.out _ (Kept.refl _ _).drew) ?_; (try go_simp)
      refine wpAnyH_take (i := 10) (v := (.int .u8 (b : Int))) rfl (by kernel_rfl) (by kernel_rfl) (by kernel_rfl) (fun _ _ _ h => h) (Or.inl ⟨by rfl, (by intro w hSw; have hS' : w.cell? ⟨g, i, none⟩ = some (.int .u8 (b : Int)) := hSw; go_simp; try rfl)⟩) (HSc.out _ (Kept.refl _ _).drew) ?_; (try go_simp)
      refine wpAnyH_take (i := 11) (v := (.int .u8 (n2 : Int))) rfl (by kernel_rfl) (by kernel_rfl) (by kernel_rfl) (fun _ _ _ h => h) (Or.inl ⟨by rfl, (by intro w hSw; have hS' : w.cell? ⟨g, i, none⟩ = some (.int .u8 (b : Int)) := hSw; go_simp; try rfl)⟩) (HSc.out _ (Kept.refl _ _).drew) ?_; (try go_simp)
      refine wpAnyH_take (i := 12) (v := (.int .u8 ((hd n2).toNat : Int))) rfl (by kernel_rfl) (by kernel_rfl) (by kernel_rfl) (fun _ _ _ h => h) (Or.inl ⟨by rfl, (fun w _ => yi rfl rfl rfl H2.out w)⟩) (HSc.out _ (Kept.refl _ _).drew) ?_; (try go_simp)
      refine wpAnyH_ready (rs := [13]) (by kernel_rfl) (by simp) ?_; refine AllReadyH.cons rfl (fun K hK => ?_) AllReadyH.nil
      go_simp
      refine hK.out _ _ (HSc.out _ ((Kept.refl _ _).alloc _).drew) (fun _ => ?_); clear hK K; (try go_simp)
      refine wpAnyH_ready (rs := [14]) (by kernel_rfl) (by simp) ?_; refine AllReadyH.cons rfl (fun K hK => ?_) AllReadyH.nil
      refine step_append_lies _ (by rfl) _ _ 22 (by rfl) (g + 1) 5 i0 (.int .u8 0) 1 1 Tryd.underlying22 hi hz0 hz1 hz2 rfl (by decide) u4 _ _ (by rfl) (ownsRow_heap (w := wr.alloc _) rfl (HO.out.alloc _)) ⟨wr.heap.size, 0, none⟩ 2 2 _ (by rfl) rfl (World.news_of_block (heap_alloc_new wr _)) (fun x hx => by simp at hx; rcases hx with rfl | rfl <;> rfl) (by decide) Hm1.out (by have := Hm1.out; omega) (by have := Hsz.out; simp; omega) (wr.heap.size + 1) (by simp) ?_
      intro g' cap' w1 hown' hgrow hat hlt'
      have HO1 := hidden hown'
      have HSw : Hid (Kept (fun k => g + 1 ≤ k) wr w1) := hidden ((((Kept.refl (fun k => g + 1 ≤ k) wr).alloc _).drew).grown (row := u4.ownBlock) hgrow (fun k hk hl => (HO.out.lt k hk).1))
      clear hown' hgrow hat
      refine hK.out _ _ (HSc.out _ HSw.out) (fun _ => ?_); clear hK K; (try go_simp)
      refine wpAnyH_ready (rs := [15]) (by kernel_rfl) (by simp) ?_; refine AllReadyH.cons rfl (fun K hK => ?_) AllReadyH.nil
      go_simp
      refine hK.out _ _ (HSc.out _ HSw.out) (fun _ => ?_); clear hK K; (try go_simp)
      refine wpAnyH_done (by kernel_rfl) ?_ _
      go_wp2
      go_roundw
      case rel =>
        refine ⟨i + 1, by omega, by go_num, ?_, blk_kept HSw.out (show ¬ g + 1 ≤ g by omega) HbC.out, HS.out.trans' HSw.out (fun i hi (h : g + 1 ≤ i) => by omega)⟩
        rw [HX.out, List.map_append, show 2 * (i + 1) = 2 * i + 2 by omega]
        exact HO1.out
      case measure => simp [intOf]; omega
    · have k1 : ¬ (i : Int) < 32 := by omega
      have h32 : i = 32 := by omega
      rw [h32, List.take_of_length_le (by rw [HL.out]; omega)] at HO
      clear hown hSm h32 hbC
      have hct := own_text HO.out
      obtain ⟨ua, uc, hu⟩ := own_form HO.out
      subst hu
      go_wp2
      go_returns
      exact ⟨rfl, HS.out⟩
end Go.Proofs.YtbankcgkbiflhaaDoor
