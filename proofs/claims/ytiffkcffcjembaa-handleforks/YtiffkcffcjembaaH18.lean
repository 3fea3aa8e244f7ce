/- A table's Fork. -/
import Derived.Test.YtiffkcffcjembaaH17
import Derived.Test.YtiffkcffcjembaaHCl
import Derived.Deep.RegionHeld3
import Derived.Deep.MidRow
namespace Go.Proofs.Ytiffkcffcjembaa
open Go.RowKit Go.Maps Go.Shelf
set_option linter.unusedVariables false
set_option linter.unusedSimpArgs false
structure ClR (n : Nat) (D : DataW Unit) (w : World) (u : Value) (W : World) : Prop where
  ex : ∃ b, u = .map (some b) ∧ w.heap.size ≤ b ∧ W.ownsMap Try.prog 3 (plainElem Try.prog 3) b n D ∧ Same w W
theorem clone_any (bm n : Nat) (D : DataW Unit) (w : World) (h : w.ownsMap Try.prog 3 (plainElem Try.prog 3) bm n D) :
    Calls Try.prog 27 #[.map (some bm)] w fun e w' => ∃ u, e = .returned u ∧ ClR n D w u w' := by
  have hcon := AnyW.maps_Clone_owns cloneA 3 (plainElem Try.prog 3) bm n D w h
  change Calls Try.prog 27 _ _ _ at hcon
  refine hcon.mono ?_
  rintro e w' ⟨rfl, h1, _, hB⟩
  exact ⟨_, rfl, ⟨w.heap.size, rfl, Nat.le_refl _, h1, same_of_below hB⟩⟩
structure FkR (f : FT) (n : Nat) (w : World) (u : Value) (W : World) : Prop where
  ex : ∃ g2 b2, u = P0 g2 ∧ w.heap.size ≤ g2 ∧ w.heap.size ≤ b2 ∧ TB W g2 b2 f n ∧ Same w W
theorem fold_size : ∀ (l : List Value) (k : Nat) (Z : Array Value), (List.foldl (fun cs (x : Value × Nat) => cs.setIfInBounds x.snd x.fst) Z (l.zipIdx k)).size = Z.size
  | [], _, _ => rfl
  | a :: l, k, Z => by
    rw [List.zipIdx_cons, List.foldl_cons, fold_size l (k + 1)]
    simp
theorem fold_at : ∀ (l : List Value) (k : Nat) (Z : Array Value) (j : Nat), k + l.length ≤ Z.size → (List.foldl (fun cs (x : Value × Nat) => cs.setIfInBounds x.snd x.fst) Z (l.zipIdx k))[j]? = if k ≤ j ∧ j < k + l.length then l[j - k]? else Z[j]?
  | [], k, Z, j, _ => by simp; intro h1 h2; omega
  | a :: l, k, Z, j, h => by
    rw [List.zipIdx_cons, List.foldl_cons, fold_at l (k + 1) _ j (by simp at h ⊢; omega)]
    simp only [List.length_cons] at h ⊢
    by_cases h1 : k + 1 ≤ j ∧ j < k + 1 + l.length
    · rw [if_pos h1, if_pos (by omega), show j - k = (j - (k + 1)) + 1 by omega, List.getElem?_cons_succ]
    · rw [if_neg h1]
      by_cases h2 : j = k
      · subst h2
        rw [if_pos (by omega), Array.getElem?_setIfInBounds_self_of_lt (by omega)]
        simp
      · rw [if_neg (by omega), Array.getElem?_setIfInBounds_ne (fun e => h2 e.symm)]
theorem fold_TC (f : FT) (b : Nat) : (List.foldl (fun cs (x : Value × Nat) => cs.setIfInBounds x.snd x.fst) ZT (sC f 64).zipIdx).setIfInBounds 192 (.map (some b)) = TC f b := by
  have hs : (sC f 64).length = 192 := sC_len f 64
  have hz : (List.foldl (fun cs (x : Value × Nat) => cs.setIfInBounds x.snd x.fst) ZT (sC f 64).zipIdx).size = 193 := (fold_size _ 0 _).trans ZT_size
  apply TC_ext
  · rw [Array.size_setIfInBounds]; exact hz
  · intro i j hi hj
    rw [Array.getElem?_setIfInBounds_ne (by omega), fold_at (sC f 64) 0 ZT _ (by rw [hs, ZT_size]; omega), if_pos (by omega), Nat.sub_zero]
    exact sC_at f i j hj 64 hi
  · exact Array.getElem?_setIfInBounds_self_of_lt (by rw [hz]; omega)
set_option maxHeartbeats 2000000 in
set_option maxRecDepth 100000 in
theorem h_fork (g bm : Nat) (f : FT) (n : Nat) (w : World) (h : TB w g bm f n) :
    Calls Try.prog 11 #[P0 g] w fun e w' => ∃ u, e = .returned u ∧ FkR f n w u w' := by
  obtain ⟨D, cm, hb, ho, hc⟩ := h.cell_map
  have hmd := hidden (h_made g bm w cm)
  have hr : w.rangeAt g 0 (sC f 64) := fun j v hv => by
    rw [Nat.zero_add, blk_cell hb]
    unfold TC
    rw [List.getElem?_toArray, List.getElem?_append_left (List.getElem?_eq_some_iff.1 hv).1]
    exact hv
  have hsl : (Try.prog.info? 45).map (·.size) = some (sC f 64).length := by rw [sC_len]; exact sizeA
  go_enter Try.func11, Try.ntmps11
  go_wp2_with (first
    | (go_at_call 26; refine (hmd.out).mono ?_; rintro e w1 ⟨rfl, h1⟩; obtain rfl := h1.symm; clear h1))
  have hmx : Try.prog.follows .mixedOrders = true := by kernel_rfl
  have hfo := fun b => fold_TC f b
  have hfs : (List.foldl (fun cs (x : Value × Nat) => cs.setIfInBounds x.snd x.fst) ZT (sC f 64).zipIdx).size = 193 := (fold_size _ 0 _).trans ZT_size
  have hCL : (sC f 64).length = 192 := sC_len f 64
  generalize hCS : sC f 64 = CS at *
  have HCS := hidden hCS
  clear hCS
  have HS : Hid (∀ W, Same w W → (fun W : World => W.rangeAt g 0 CS ∧ W.cell? ⟨g, 192, none⟩ = some (.map (some bm))) W) := hidden (fun W kk => ⟨fun j v hv => kk.cell (fun h => h) (hr j v hv), kk.cell (fun h => h) cm⟩)
  have HO := hidden ho
  have HCC := hidden hc
  clear hb ho hc hr
  refine wp_region_held_drew (S := (fun W : World => W.rangeAt g 0 CS ∧ W.cell? ⟨g, 192, none⟩ = some (.map (some bm)))) hmx (HS.out _ ((Kept.refl (fun _ => False) w).drew)) (fun _ => ?_)
  refine wpAnyH_take (i := 0) (v := (P0 g)) rfl (by kernel_rfl) (by kernel_rfl) (by kernel_rfl) (fun _ _ _ h => h) (Or.inl ⟨by rfl, (by intro w hSw; obtain ⟨s1, s2⟩ := hSw; go_simp; try rfl)⟩) (HS.out _ ((Kept.refl (fun _ => False) w).drew)) ?_; (try go_simp)
  refine wpAnyH_take (i := 1) (v := (.pointer (some ⟨g, 0, none⟩))) rfl (by kernel_rfl) (by kernel_rfl) (by kernel_rfl) (fun _ _ _ h => h) (Or.inl ⟨by rfl, (by intro w hSw; obtain ⟨s1, s2⟩ := hSw; go_simp; try rfl)⟩) (HS.out _ ((Kept.refl (fun _ => False) w).drew)) ?_; (try go_simp)
  refine wpAnyH_take (i := 2) (v := (.pointer (some ⟨g, 0, none⟩))) rfl (by kernel_rfl) (by kernel_rfl) (by kernel_rfl) (fun _ _ _ h => h) (Or.inl ⟨by rfl, (by intro w hSw; obtain ⟨s1, s2⟩ := hSw; go_simp; try rfl)⟩) (HS.out _ ((Kept.refl (fun _ => False) w).drew)) ?_; (try go_simp)
  refine wpAnyH_take (i := 3) (v := .agg CS.toArray) rfl (by kernel_rfl) (by kernel_rfl) (by kernel_rfl) (fun _ _ _ h => h) (yieldsIf_load_mid (by rfl) 45 _ rfl g 0 rfl CS _ (fun w h => h.1) Try.underlying45 rfl hsl) (HS.out _ ((Kept.refl (fun _ => False) w).drew)) ?_; (try go_simp)
  refine wpAnyH_take (i := 4) (v := (P0 g)) rfl (by kernel_rfl) (by kernel_rfl) (by kernel_rfl) (fun _ _ _ h => h) (Or.inl ⟨by rfl, (by intro w hSw; obtain ⟨s1, s2⟩ := hSw; go_simp; try rfl)⟩) (HS.out _ ((Kept.refl (fun _ => False) w).drew)) ?_; (try go_simp)
  refine wpAnyH_take (i := 5) (v := (.pointer (some ⟨g, 0, none⟩))) rfl (by kernel_rfl) (by kernel_rfl) (by kernel_rfl) (fun _ _ _ h => h) (Or.inl ⟨by rfl, (by intro w hSw; obtain ⟨s1, s2⟩ := hSw; go_simp; try rfl)⟩) (HS.out _ ((Kept.refl (fun _ => False) w).drew)) ?_; (try go_simp)
  refine wpAnyH_take (i := 6) (v := (.pointer (some ⟨g, 192, none⟩))) rfl (by kernel_rfl) (by kernel_rfl) (by kernel_rfl) (fun _ _ _ h => h) (Or.inl ⟨by rfl, (by intro w hSw; obtain ⟨s1, s2⟩ := hSw; go_simp; try rfl)⟩) (HS.out _ ((Kept.refl (fun _ => False) w).drew)) ?_; (try go_simp)
  refine wpAnyH_take (i := 7) (v := (.map (some bm))) rfl (by kernel_rfl) (by kernel_rfl) (by kernel_rfl) (fun _ _ _ h => h) (Or.inl ⟨by rfl, (by intro w hSw; obtain ⟨s1, s2⟩ := hSw; go_simp; try rfl)⟩) (HS.out _ ((Kept.refl (fun _ => False) w).drew)) ?_; (try go_simp)
  refine wpAnyH_ready (rs := [8]) (by kernel_rfl) (by simp) ?_
  refine (AllReadyH.cons rfl (fun K hK => ?_) AllReadyH.nil)
  refine step_call rfl 27 #[.map (some bm)] (fun u W => ClR n D w.drew u W) (by go_simp; try rfl) (clone_any bm n D _ HO.out.drew) ?_
  rintro u w2 hu
  obtain ⟨b2, rfl, hb2, ho2, k2⟩ := hu.ex
  have k2w : Same w w2 := ((Kept.refl (fun _ => False) w).drew).trans k2
  refine hK.out _ _ (HS.out _ k2w) (fun _ => ?_); clear hK K hu; (try go_simp)
  refine wpAnyH_ready (rs := [9]) (by kernel_rfl) (by simp) ?_
  refine (AllReadyH.cons rfl (fun K hK => ?_) AllReadyH.nil)
  have hz := zeroT
  have hZs := ZT_size
  go_simp
  refine hK.out _ _ (HS.out _ k2w) (fun _ => ?_); clear hK K; (try go_simp)
  refine wpAnyH_ready (rs := [10]) (by kernel_rfl) (by simp) ?_
  refine (AllReadyH.cons rfl (fun K hK => ?_) AllReadyH.nil)
  go_simp
  refine hK.out _ _ (HS.out _ (k2w.alloc _)) (fun _ => ?_); clear hK K; (try go_simp)
  refine wpAnyH_ready (rs := [11]) (by kernel_rfl) (by simp) ?_
  refine (AllReadyH.cons rfl (fun K hK => ?_) AllReadyH.nil)
  go_simp
  refine hK.out _ _ (HS.out _ (k2w.alloc _)) (fun _ => ?_); clear hK K; (try go_simp)
  refine wpAnyH_done (by kernel_rfl) ?_ _
  have hTB : TB (w2.alloc (.cells (TC f b2) 48)) w2.heap.size b2 f n := ⟨blk_new w2 _, ⟨D, ho2.alloc _, HCC.out⟩, h.goo⟩
  have HF : Hid (FkR f n w (P0 w2.heap.size) (w2.alloc (.cells (TC f b2) 48))) := hidden ⟨w2.heap.size, b2, rfl, k2w.size, hb2, hTB, k2w.alloc _⟩
  clear ho2 k2w k2 hfo hfs hz hZs hCL hTB
  generalize w2.alloc (.cells (TC f b2) 48) = WW at *
  go_wp2
  go_ret
  exact ⟨_, rfl, HF.out⟩
end Go.Proofs.Ytiffkcffcjembaa
