/- sha's Hasher: Write, walked. -/
import Derived.Test.YtbankcgkbiflhaaDoorShH
import Derived.Test.YtbankcgkbiflhaaDoorShS
namespace Go.Proofs.YtbankcgkbiflhaaDoor
open Go.RowKit
set_option linter.unusedVariables false

theorem hmx : Tryd.prog.follows .mixedOrders = true := by kernel_rfl
theorem i5 : (Tryd.prog.info? 5).map (·.size) = some 1 := by kernel_rfl
/-- The length of a slice's value. -/
def lenOfV : Value → Nat
  | .slice _ n _ => n
  | _ => 0
set_option maxHeartbeats 1000000 in
set_option maxRecDepth 100000 in
theorem writeNil_any (v : Value) (w : World) : Calls Tryd.prog 23 #[.pointer none, v] w fun e w' => e = .returned (.tuple #[]) ∧ w = w' := by
  go_enter Tryd.func23, Tryd.ntmps23
  go_wp2
  go_returns
  exact ⟨rfl, rfl⟩
set_option maxHeartbeats 1000000 in
set_option maxRecDepth 100000 in
theorem write0_any (g : Nat) (a : Option Addr) (cap : Nat) (w : World) : Calls Tryd.prog 23 #[.pointer (some ⟨g, 0, none⟩), .slice a 0 cap] w fun e w' => e = .returned (.tuple #[]) ∧ w = w' := by
  go_enter Tryd.func23, Tryd.ntmps23
  go_wp2
  go_loopw [1] (fun x wr => x = .slice a 0 cap ∧ w = wr) (fun _ _ => 0)
  case atStart => exact ⟨rfl, rfl⟩
  case round =>
    obtain ⟨rfl, rfl⟩ := hrel
    go_wp2
    go_returns
    exact ⟨rfl, rfl⟩
set_option maxHeartbeats 1000000 in
set_option maxRecDepth 100000 in
theorem write_any (g : Nat) (L B : List UInt8) (b off cap : Nat) (w : World) (h : HW w g L) (hT : Tab w) (hg0 : 0 ≠ g) (hb : b ≠ g) (hcap : B.length ≤ cap) (hcap2 : cap ≤ 9223372036854775807) (hL : L.length + B.length ≤ 1152921504606846976)
    (hB : ∀ j x, B[j]? = some x → w.cell? ⟨b, off + j, none⟩ = some (U8 x)) :
    Calls Tryd.prog 23 #[.pointer (some ⟨g, 0, none⟩), .slice (some ⟨b, off, none⟩) B.length cap] w fun e w' => e = .returned (.tuple #[]) ∧ HW w' g (L ++ B) ∧ Kept (fun k => k = g) w w' := by
  have HB := hidden hB
  have HT := hidden hT
  have HH := hidden h
  have HG0 := hidden hg0
  have Hb := hidden hb
  clear hB hT h hg0 hb
  go_enter Tryd.func23, Tryd.ntmps23
  go_wp2
  go_loopw [1] (fun x wr => ∃ (k o c : Nat), k ≤ B.length ∧ (k < B.length → o = off + k) ∧ B.length - k ≤ c ∧ c ≤ cap ∧ x = .slice (some ⟨b, o, none⟩) (B.length - k) c ∧ HW wr g (L ++ B.take k) ∧ Kept (fun k => k = g) w wr) (fun x _ => lenOfV x)
  case atStart => exact ⟨0, off, cap, Nat.zero_le _, fun _ => rfl, by omega, Nat.le_refl _, rfl, by simpa using HH.out, Kept.refl _ _⟩
  case round =>
    obtain ⟨k, o, c, hk, ho, hc, hc2, rfl, hH, hK⟩ := hrel
    have HK := hidden hK
    by_cases hlt : k < B.length
    · have hol := ho hlt
      obtain ⟨bs, hbs, hblk, htk⟩ := hH
      obtain ⟨R, hR⟩ : ∃ R, R = B.drop k := ⟨_, rfl⟩
      obtain ⟨L', hL'⟩ : ∃ L', L' = L ++ B.take k := ⟨_, rfl⟩
      have hL'n : L'.length = L.length + k := by rw [hL', List.length_append, List.length_take, Nat.min_eq_left hk]
      have hRn : R.length = B.length - k := by rw [hR, List.length_drop]
      rw [← hL'] at hblk htk
      obtain ⟨kept, hkept⟩ : ∃ kept, kept = L'.length % 64 := ⟨_, rfl⟩
      obtain ⟨m, hm⟩ : ∃ m, m = Nat.min R.length (64 - kept) := ⟨_, rfl⟩
      have hm1 : 1 ≤ m := by rw [hm]; exact (Nat.le_min).2 ⟨by omega, by omega⟩
      have hm2 : m ≤ R.length := by rw [hm]; exact Nat.min_le_left _ _
      have hm3 : m ≤ 64 - kept := by rw [hm]; exact Nat.min_le_right _ _
      have hcp := run_copy_row (P := Tryd.prog) wr 22 22 3 5 g (8 + kept) (64 - kept) (64 - kept) ⟨b, o, none⟩ R.length c _ _ ((R.take m).map U8) Tryd.underlying22 i5 hblk (by rw [List.length_map, List.length_take]; omega)
        (fun j v hv => by
          rw [List.getElem?_map, Option.map_eq_some_iff] at hv
          obtain ⟨x, hx, rfl⟩ := hv
          have hj : j < (R.take m).length := (List.getElem?_eq_some_iff.1 hx).1
          rw [List.length_take] at hj
          rw [List.getElem?_take, if_pos (by omega), hR, List.getElem?_drop] at hx
          have := HB.out _ _ hx
          rw [show (⟨b, o, none⟩ : Addr).add j = ⟨b, off + (k + j), none⟩ by rw [hol, Addr.add_mid, Nat.add_assoc]]
          exact Kept.cell HK.out (p := ⟨b, off + (k + j), none⟩) Hb.out this) (by rw [hc_size _ _ _ hbs, List.length_map, List.length_take]; omega) (fun v hv => by
          rw [List.mem_map] at hv
          obtain ⟨x, _, rfl⟩ := hv
          exact U8_one x)
      rw [hc_copy _ _ _ _ _ hbs (by rw [List.length_take]; omega), List.length_map, List.length_take, Nat.min_eq_left hm2] at hcp
      have hnl : (R.take m).length = m := by rw [List.length_take]; omega
      obtain ⟨new, hnew⟩ : ∃ new, new = R.take m := ⟨_, rfl⟩
      rw [← hnew] at hcp hnl
      have hnx : L ++ B.take (k + m) = L' ++ new := by rw [hnew, hR, hL', List.append_assoc, List.take_add]
      obtain ⟨bs', hbs'⟩ : ∃ bs', bs' = bs.take kept ++ new ++ bs.drop (kept + m) := ⟨_, rfl⟩
      have hbl : bs'.length = 64 := by rw [hbs']; simp; omega
      rw [← hbs'] at hcp
      obtain ⟨st, hst⟩ : ∃ st, st = runN L' (L'.length / 64) := ⟨_, rfl⟩
      have hsok : st.Ok := hst ▸ runN_ok _ _
      rw [← hst] at hcp hblk
      have c1 : wr.cell? ⟨g, 72, none⟩ = some (.int .i64 (L'.length : Int)) := (blk_cell hblk).trans (hc_72 _ _ _ hbs)
      have B2 := setRow_heap wr g _ (hcells st bs' L'.length) _ _ hblk
      have c2 : (wr.setRow g (hcells st bs' L'.length)).cell? ⟨g, 72, none⟩ = some (.int .i64 (L'.length : Int)) := (blk_cell B2).trans (hc_72 _ _ _ hbl)
      have f2 : (wr.setRow g (hcells st bs' L'.length)).frozen? ⟨g, 72, none⟩ = false := blk_free B2
      have B3 : ((wr.setRow g (hcells st bs' L'.length)).setCell ⟨g, 72, none⟩ (.int .i64 ((L'.length + m : Nat) : Int))).heap[g]? = some (.cells (hcells st bs' (L'.length + m)) 74 (0, 0)) := (blk_set B2 _).trans (by rw [hc_put _ _ _ _ hbl])
      have K3 : Kept (fun k => k = g) w ((wr.setRow g (hcells st bs' L'.length)).setCell ⟨g, 72, none⟩ (.int .i64 ((L'.length + m : Nat) : Int))) := (HK.out.setRow (Or.inr rfl) _).setCell rfl _
      have HH3 := hidden B3
      have HK3 := hidden K3
      have e1 : (L'.length : Int) + (m : Int) = ((L'.length + m : Nat) : Int) := by omega
      rw [hRn] at hcp
      obtain ⟨n0, hn0⟩ : ∃ n0, n0 = L'.length := ⟨_, rfl⟩
      obtain ⟨n1, hn1⟩ : ∃ n1, n1 = n0 + m := ⟨_, rfl⟩
      rw [← hn0] at hcp c1 c2 f2 HH3 HK3 e1
      rw [← hn1] at HH3 HK3 e1
      have d1 : (n0 : Int) % 64 = (kept : Int) := by omega
      have d2 : (n0 : Int).tmod 64 = (kept : Int) := by rw [Int.tmod_eq_emod_of_nonneg (by omega)]; omega
      have d3 : IntKind.i64.wrap (kept : Int) = (kept : Int) := by rw [IntKind.wrap_i64]; omega
      have d4 : IntKind.i64.wrap (n1 : Int) = (n1 : Int) := by rw [IntKind.wrap_i64]; omega
      have k1 : (0 : Int) < ((B.length - k : Nat) : Int) := by omega
      have k2 : (kept : Int) ≤ 64 := by omega
      have k3 : (0 : Int) ≤ (kept : Int) := by omega
      have Hhm := hidden (show m ≤ B.length - k by omega)
      have HF := hidden hnx
      have HTk := hidden htk
      have Hbs := hidden hbs
      have Hbl := hidden hbl
      have Hbs' := hidden hbs'
      have Hst := hidden hst
      have Hsok := hidden hsok
      have Hkept := hidden hkept
      have Hnl := hidden hnl
      have Hn0 := hidden hn0
      have Hn1 := hidden hn1
      have Hol := hidden hol
      have Hm3 := hidden hm3
      obtain ⟨r, hr⟩ : ∃ r, r = B.length - k := ⟨_, rfl⟩
      rw [← hr] at hcp k1 Hhm hc
      have Hr := hidden hr
      rw [← hr]
      have k4 : (m : Int) ≤ (r : Int) := by have := Hhm.out; omega
      have k5 : (r : Int) ≤ (c : Int) := by omega
      have k6 : m ≤ r := Hhm.out
      have k7 : kept ≤ 64 := by omega
      have k9 : r ≤ 1152921504606846976 := by have := Hr.out; omega
      generalize hcells st bs' n0 = C2 at *
      clear hblk htk hR hL' hL'n hRn hkept hm hm2 hm3 hnl hnew hnx hbs' hbl hst hsok B2 B3 K3 hK hol hbs hn0 hn1 ho hr hcap hc
      obtain ⟨o2, ho2, Ho2⟩ : ∃ o2 : Nat, (if c = m then some (⟨b, o, none⟩ : Addr) else some ⟨b, o + m, none⟩) = some ⟨b, o2, none⟩ ∧ Hid (m < r → o2 = o + m) := by
        by_cases e : c = m
        · exact ⟨o, by rw [if_pos e], fun h => by omega⟩
        · exact ⟨o + m, by rw [if_neg e], fun _ => rfl⟩
      have HRel : Hid (∀ W, HW W g (L' ++ new) → Kept (fun k => k = g) w W → (∃ k o_1 c_1, k ≤ B.length ∧ (k < B.length → o_1 = off + k) ∧ B.length - k ≤ c_1 ∧ c_1 ≤ cap ∧ Value.slice (some ⟨b, o2, none⟩) (r - m) (c - m) = Value.slice (some ⟨b, o_1, none⟩) (B.length - k) c_1 ∧ HW W g (L ++ List.take k B) ∧ Kept (fun k => k = g) w W)) := hidden (fun W h1 h2 => by
        have hr := Hr.out
        have ho := Hol.out
        have hm := Hhm.out
        exact ⟨k + m, o2, c - m, by omega, fun hh => by rw [Ho2.out (by omega), ho]; omega, by omega, by omega, by rw [show B.length - (k + m) = r - m by omega], by rw [HF.out]; exact h1, h2⟩)
      have HMs : Hid (r - m < r) := hidden (by omega)
      by_cases hfull : kept + m = 64
      · have k8 : (kept : Int) + (m : Int) = 64 := by omega
        go_wp2
        have hh3 := HH3.out
        have hk3 := HK3.out
        generalize (wr.setRow g C2).setCell ⟨g, 72, none⟩ (.int .i64 (n1 : Int)) = W2 at *
        have hl1 := run_loadAt_mid (P := Tryd.prog) W2.drew g 0 52 st.cells.toList _ (hc_range0 hh3) Tryd.underlying52 rfl i8w
        have hl2 := run_loadAt_mid (P := Tryd.prog) W2.drew g 8 72 (bs'.map U8) _ (hc_range8 hh3) Tryd.underlying72 rfl (by rw [i64b, List.length_map, Hbl.out])
        have Hl1 := hidden hl1
        have Hl2 := hidden hl2
        have HM := hidden (fun W h => mix_any st Hsok.out bs' Hbl.out W h)
        have HT2 := hidden (HT.out.kept hk3 HG0.out)
        clear hh3 hk3 hl1 hl2
        refine wp_region_any hmx ?_
        change wpAny Tryd.prog _ _ _ _ _ _ W2.drew
        refine wpAny_take (i := 0) (v := (.pointer (some ⟨g, 0, none⟩))) rfl (by kernel_rfl) (by kernel_rfl) (by kernel_rfl) (fun _ _ _ h => h) (Or.inl ⟨by rfl, (by intro w; go_simp; try rfl)⟩) ?_; (try go_simp)
        refine wpAny_take (i := 1) (v := (.pointer (some ⟨g, 0, none⟩))) rfl (by kernel_rfl) (by kernel_rfl) (by kernel_rfl) (fun _ _ _ h => h) (Or.inl ⟨by rfl, (by intro w; go_simp; try rfl)⟩) ?_; (try go_simp)
        refine wpAny_take (i := 2) (v := (.pointer (some ⟨g, 0, none⟩))) rfl (by kernel_rfl) (by kernel_rfl) (by kernel_rfl) (fun _ _ _ h => h) (Or.inl ⟨by rfl, (by intro w; go_simp; try rfl)⟩) ?_; (try go_simp)
        refine wpAny_take (i := 3) (v := (.pointer (some ⟨g, 0, none⟩))) rfl (by kernel_rfl) (by kernel_rfl) (by kernel_rfl) (fun _ _ _ h => h) (Or.inl ⟨by rfl, (by intro w; go_simp; try rfl)⟩) ?_; (try go_simp)
        refine wpAny_take (i := 5) (v := (.pointer (some ⟨g, 0, none⟩))) rfl (by kernel_rfl) (by kernel_rfl) (by kernel_rfl) (fun _ _ _ h => h) (Or.inl ⟨by rfl, (by intro w; go_simp; try rfl)⟩) ?_; (try go_simp)
        refine wpAny_take (i := 6) (v := (.pointer (some ⟨g, 0, none⟩))) rfl (by kernel_rfl) (by kernel_rfl) (by kernel_rfl) (fun _ _ _ h => h) (Or.inl ⟨by rfl, (by intro w; go_simp; try rfl)⟩) ?_; (try go_simp)
        refine wpAny_take (i := 7) (v := (.pointer (some ⟨g, 8, none⟩))) rfl (by kernel_rfl) (by kernel_rfl) (by kernel_rfl) (fun _ _ _ h => h) (Or.inl ⟨by rfl, (by intro w; go_simp; try rfl)⟩) ?_; (try go_simp)
        refine wpAny_ready (rs := [4, 8]) (by kernel_rfl) (by simp) ?_; refine AllReady.cons rfl (fun K hK => ?_) (AllReady.cons rfl (fun K hK => ?_) AllReady.nil)
        · refine step_load rfl 52 _ rfl _ rfl _ Hl1.out (hK _ _ ?_); clear hK K; (try go_simp)
          refine wpAny_ready (rs := [8]) (by kernel_rfl) (by simp) ?_; refine AllReady.cons rfl (fun K hK => ?_) AllReady.nil
          refine step_load rfl 72 _ rfl _ rfl _ Hl2.out (hK _ _ ?_); clear hK K; (try go_simp)
          refine wpAny_ready (rs := [9]) (by kernel_rfl) (by simp) ?_; refine AllReady.cons rfl (fun K hK => ?_) AllReady.nil
          refine step_call rfl 33 #[.agg st.cells, .agg (bs'.map U8).toArray] (fun v w3 => v = .agg (blkS st bs').cells ∧ Same W2.drew w3) (by go_simp; try rfl) ((HM.out _ HT2.out.drew).mono (fun e w' ⟨h1, h2⟩ => ⟨_, h1, rfl, h2⟩)) ?_
          rintro v w3 ⟨rfl, k3⟩
          refine hK _ _ ?_; clear hK K; (try go_simp)
          have b3 := hidden (blk_kept k3 (fun h => h) (show W2.drew.heap[g]? = _ from HH3.out))
          have K3 := hidden (Kept.trans HK3.out.drew (k3.mono (fun _ _ h => h.elim)))
          clear k3
          refine wpAny_take (i := 10) (v := (.pointer (some ⟨g, 0, none⟩))) rfl (by kernel_rfl) (by kernel_rfl) (by kernel_rfl) (fun _ _ _ h => h) (Or.inl ⟨by rfl, (by intro w; go_simp; try rfl)⟩) ?_; (try go_simp)
          refine wpAny_take (i := 11) (v := (.pointer (some ⟨g, 0, none⟩))) rfl (by kernel_rfl) (by kernel_rfl) (by kernel_rfl) (fun _ _ _ h => h) (Or.inl ⟨by rfl, (by intro w; go_simp; try rfl)⟩) ?_; (try go_simp)
          refine wpAny_ready (rs := [12]) (by kernel_rfl) (by simp) ?_; refine AllReady.cons rfl (fun K hK => ?_) AllReady.nil
          refine step_store rfl 52 _ _ rfl rfl _ rfl _ rfl (run_storeAt_mid (P := Tryd.prog) w3 g 0 52 (blkS st bs').cells (fun j hj => by have hj' : j < 8 := hj; exact ⟨by rw [blk_cell b3.out, Array.getElem?_eq_getElem (by rw [hc_size _ _ _ Hbl.out]; omega)]; rfl, blk_free b3.out⟩) i8w (by simp [S8.cells, Value.oneCell'])) (hK _ _ ?_); clear hK K
          refine wpAny_done (by kernel_rfl) ?_ _
          go_wp2
          go_roundw
          case rel =>
            refine HRel.out _ ?_ (Kept.setCells (S := fun k => k = g) (g := g) rfl _ _ K3.out)
            have e := Hkept.out
            have htk := HTk.out
            have hf := hfull
            rw [e] at hf
            obtain ⟨p1, p2⟩ := wr_full L' new bs Hbs.out htk (by rw [Hnl.out]; omega)
            refine ⟨bs', Hbl.out, ?_, p2 _⟩
            have hb := blk_setCells (blkS st bs').cells.toList 0 _ w3 b3.out (by rw [hc_size _ _ _ Hbl.out, cells_len]; omega)
            rw [hc_state] at hb
            rw [← p1, ← Hst.out, ← e, List.length_append, Hnl.out, ← Hbs'.out, ← Hn0.out, ← Hn1.out]
            exact hb
          case measure => exact HMs.out
        · refine step_load rfl 72 _ rfl _ rfl _ Hl2.out (hK _ _ ?_); clear hK K; (try go_simp)
          refine wpAny_ready (rs := [4]) (by kernel_rfl) (by simp) ?_; refine AllReady.cons rfl (fun K hK => ?_) AllReady.nil
          refine step_load rfl 52 _ rfl _ rfl _ Hl1.out (hK _ _ ?_); clear hK K; (try go_simp)
          refine wpAny_ready (rs := [9]) (by kernel_rfl) (by simp) ?_; refine AllReady.cons rfl (fun K hK => ?_) AllReady.nil
          refine step_call rfl 33 #[.agg st.cells, .agg (bs'.map U8).toArray] (fun v w3 => v = .agg (blkS st bs').cells ∧ Same W2.drew w3) (by go_simp; try rfl) ((HM.out _ HT2.out.drew).mono (fun e w' ⟨h1, h2⟩ => ⟨_, h1, rfl, h2⟩)) ?_
          rintro v w3 ⟨rfl, k3⟩
          refine hK _ _ ?_; clear hK K; (try go_simp)
          have b3 := hidden (blk_kept k3 (fun h => h) (show W2.drew.heap[g]? = _ from HH3.out))
          have K3 := hidden (Kept.trans HK3.out.drew (k3.mono (fun _ _ h => h.elim)))
          clear k3
          refine wpAny_take (i := 10) (v := (.pointer (some ⟨g, 0, none⟩))) rfl (by kernel_rfl) (by kernel_rfl) (by kernel_rfl) (fun _ _ _ h => h) (Or.inl ⟨by rfl, (by intro w; go_simp; try rfl)⟩) ?_; (try go_simp)
          refine wpAny_take (i := 11) (v := (.pointer (some ⟨g, 0, none⟩))) rfl (by kernel_rfl) (by kernel_rfl) (by kernel_rfl) (fun _ _ _ h => h) (Or.inl ⟨by rfl, (by intro w; go_simp; try rfl)⟩) ?_; (try go_simp)
          refine wpAny_ready (rs := [12]) (by kernel_rfl) (by simp) ?_; refine AllReady.cons rfl (fun K hK => ?_) AllReady.nil
          refine step_store rfl 52 _ _ rfl rfl _ rfl _ rfl (run_storeAt_mid (P := Tryd.prog) w3 g 0 52 (blkS st bs').cells (fun j hj => by have hj' : j < 8 := hj; exact ⟨by rw [blk_cell b3.out, Array.getElem?_eq_getElem (by rw [hc_size _ _ _ Hbl.out]; omega)]; rfl, blk_free b3.out⟩) i8w (by simp [S8.cells, Value.oneCell'])) (hK _ _ ?_); clear hK K
          refine wpAny_done (by kernel_rfl) ?_ _
          go_wp2
          go_roundw
          case rel =>
            refine HRel.out _ ?_ (Kept.setCells (S := fun k => k = g) (g := g) rfl _ _ K3.out)
            have e := Hkept.out
            have htk := HTk.out
            have hf := hfull
            rw [e] at hf
            obtain ⟨p1, p2⟩ := wr_full L' new bs Hbs.out htk (by rw [Hnl.out]; omega)
            refine ⟨bs', Hbl.out, ?_, p2 _⟩
            have hb := blk_setCells (blkS st bs').cells.toList 0 _ w3 b3.out (by rw [hc_size _ _ _ Hbl.out, cells_len]; omega)
            rw [hc_state] at hb
            rw [← p1, ← Hst.out, ← e, List.length_append, Hnl.out, ← Hbs'.out, ← Hn0.out, ← Hn1.out]
            exact hb
          case measure => exact HMs.out
      · have k8 : ¬ (kept : Int) + (m : Int) = 64 := by omega
        go_wp2
        go_roundw
        case rel =>
          refine HRel.out _ ?_ HK3.out
          have e := Hkept.out
          have htk := HTk.out
          have hm3 := Hm3.out
          rw [e] at hfull hm3
          obtain ⟨p1, p2⟩ := wr_part L' new bs Hbs.out htk (by rw [Hnl.out]; omega)
          refine ⟨bs', Hbl.out, ?_, ?_⟩
          · rw [p1, ← Hst.out, List.length_append, Hnl.out, ← Hn0.out, ← Hn1.out]
            exact HH3.out
          · rw [← p2, Hbs'.out, e, Hnl.out]
        case measure => exact HMs.out
    · have e0 : B.length - k = 0 := by omega
      rw [e0]
      have HH4 : Hid (HW wr g (L ++ B)) := hidden (by have := hH; rwa [List.take_of_length_le (by omega)] at this)
      clear hK hH ho hlt hk e0 hc
      go_wp2
      go_returns
      exact ⟨rfl, HH4.out, HK.out⟩
end Go.Proofs.YtbankcgkbiflhaaDoor
