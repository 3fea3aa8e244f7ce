/- pack: Fork of the program. -/
import Derived.Test.YtafdkfieajdeiaaDoorPP4
namespace Go.Proofs.YtafdkfieajdeiaaDoor
open Go.RowKit
set_option linter.unusedVariables false
set_option linter.unusedSimpArgs false
set_option maxHeartbeats 1000000 in
set_option maxRecDepth 100000 in
theorem p_fork {g : Nat} {s : PSt} {w : World} (h : PW g s w) (hT : Tab w) : Calls Tryd.prog 12 #[.pointer (some ⟨g, 0, none⟩)] w fun e w' => ∃ g', e = .returned (.pointer (some ⟨g', 0, none⟩)) ∧ PW g' s w' ∧ Same w w' ∧ ∀ k, pS g' w' k → w.heap.size ≤ k := by
  have A := hidden (p_made h)
  have hm := h.ok.many
  obtain ⟨⟨vb, vs, h1, h2, h3⟩, ok, nt⟩ := h
  have hb := Bt.ownM h2
  have hroom := ok.room
  have hb1 := ok.b1
  have hsl : s.slots.length ≤ 262144 := by rw [PSt.slots, slotsFrom_len]; omega
  obtain ⟨va, vc, rfl, _⟩ := h3.form
  obtain ⟨ba, bc, rfl, _⟩ := h2.form
  have HC := hidden (fun W (k : Same w W) => cloneB (.slice ba s.bs.length bc) s.bs W (hb.same k) (by omega))
  have HD := hidden (fun W (k : Same w W) => cloneSl (.slice va s.slots.length vc) s.slots W (SlM.same h3 k) hsl)
  have HOK := hidden ok
  have HLT := hidden hT.lt
  have H1 := hidden h1
  have c0 : w.cell? ⟨g, 0, none⟩ = some (.int .i64 s.size) := blk_cell h1
  have c1 : w.cell? ⟨g, 1, none⟩ = some (.int .i64 s.sectors) := blk_cell h1
  have c2 : w.cell? ⟨g, 2, none⟩ = some (.slice ba s.bs.length bc) := blk_cell h1
  have c3 : w.cell? ⟨g, 3, none⟩ = some (.slice va s.slots.length vc) := blk_cell h1
  have c4 : w.cell? ⟨g, 4, none⟩ = some (.bool s.shut) := blk_cell h1
  have c5 : w.cell? ⟨g, 5, none⟩ = some (.int .i64 s.tslots) := blk_cell h1
  have c6 : w.cell? ⟨g, 6, none⟩ = some (.int .i64 s.tend) := blk_cell h1
  have c7 : w.cell? ⟨g, 7, none⟩ = some (.bool s.tshut) := blk_cell h1
  have d2 : (w.alloc (.cells #[.int .i64 s.size, .int .i64 s.sectors, .slice ba s.bs.length bc, .slice va s.slots.length vc, .bool s.shut, .int .i64 s.tslots, .int .i64 s.tend, .bool s.tshut] 70)).cell? ⟨g, 2, none⟩ = some (.slice ba s.bs.length bc) := blk_cell (blk_alloc h1 _)
  have HN := hidden (blk_new w (.cells (PCells s (.slice ba s.bs.length bc) (.slice va s.slots.length vc)) 70))
  have HS := hidden (same_alloc w (.cells (PCells s (.slice ba s.bs.length bc) (.slice va s.slots.length vc)) 70))
  unfold PCells at HS
  clear h1 h2 h3 ok nt hb hm hsl hroom hb1 hT
  go_enter Tryd.func12, Tryd.ntmps12
  go_wp2_with (first
    | (go_at_call 38; refine (A.out).mono ?_; rintro e w1 ⟨rfl, rfl⟩)
    | (go_at_call 39; refine (HC.out _ HS.out).mono ?_; rintro e w2 ⟨u, rfl, hu, k2⟩; obtain ⟨ua, uc, rfl⟩ := own_form hu; have HU := hidden hu; have b2 := blk_kept k2 (fun h => h) HN.out; have HB2 := hidden b2; have K2 := hidden (HS.out.trans k2); have f2 : w2.frozen? ⟨w.heap.size, 2, none⟩ = false := blk_free b2; have e2 : w2.cell? ⟨w.heap.size, 2, none⟩ = some (.slice ba s.bs.length bc) := blk_cell b2; have g3 : w2.cell? ⟨g, 3, none⟩ = some (.slice va s.slots.length vc) := blk_cell (blk_kept K2.out (fun h => h) H1.out); have kk : Same w (w2.setCell ⟨w.heap.size, 2, none⟩ (.slice ua s.bs.length uc)) := Kept.setNew K2.out (p := ⟨w.heap.size, 2, none⟩) (Nat.le_refl _) _; have KK := hidden kk; have g3' : (w2.setCell ⟨w.heap.size, 2, none⟩ (.slice ua s.bs.length uc)).cell? ⟨g, 3, none⟩ = some (.slice va s.slots.length vc) := blk_cell (blk_kept kk (fun h => h) H1.out); clear hu k2 b2 kk)
    | (go_at_call 40; refine (HD.out _ KK.out).mono ?_; rintro e w3 ⟨t, rfl, ht, k3⟩; obtain ⟨ta, tc, rfl⟩ := own_form ht; have HT := hidden ht; have b3 := blk_kept k3 (fun h => h) (blk_set (j := 2) HB2.out (.slice ua s.bs.length uc)); have HB3 := hidden b3; have K3 := hidden (KK.out.trans k3); have K23 := hidden k3; have f3 : w3.frozen? ⟨w.heap.size, 3, none⟩ = false := blk_free b3; have e3 : w3.cell? ⟨w.heap.size, 3, none⟩ = some (.slice va s.slots.length vc) := blk_cell b3; clear ht k3 b3))
  go_returns
  have hK : Kept (fun k => k = w.heap.size) (w2.setCell ⟨w.heap.size, 2, none⟩ (.slice ua s.bs.length uc)) (w3.setCell ⟨w.heap.size, 3, none⟩ (.slice ta s.slots.length tc)) := Kept.setCell (p := ⟨w.heap.size, 3, none⟩) (Kept.mono K23.out (fun _ _ h => h.elim) : Kept (fun k => k = w.heap.size) _ w3) rfl _
  have hK3 : Kept (fun k => k = w.heap.size) w3 (w3.setCell ⟨w.heap.size, 3, none⟩ (.slice ta s.slots.length tc)) := Kept.setCell (p := ⟨w.heap.size, 3, none⟩) (Kept.refl (fun k => k = w.heap.size) w3) rfl _
  have hK2 : Kept (fun k => k = w.heap.size) w2 (w3.setCell ⟨w.heap.size, 3, none⟩ (.slice ta s.slots.length tc)) := (Kept.setCell (p := ⟨w.heap.size, 2, none⟩) (Kept.refl (fun k => k = w.heap.size) w2) rfl (.slice ua s.bs.length uc)).trans hK
  have hS : Same w (w3.setCell ⟨w.heap.size, 3, none⟩ (.slice ta s.slots.length tc)) := Kept.setNew K3.out (p := ⟨w.heap.size, 3, none⟩) (Nat.le_refl _) _
  have hB : (w3.setCell ⟨w.heap.size, 3, none⟩ (.slice ta s.slots.length tc)).heap[w.heap.size]? = some (.cells (PCells s (.slice ua s.bs.length uc) (.slice ta s.slots.length tc)) 70 (0, 0)) := by
    rw [blk_set (j := 3) HB3.out]
    rfl
  have hu1 : ∀ k, (Value.slice ua s.bs.length uc).ownBlock = some k → w.heap.size ≤ k := fun k hk => by
    have h9 := (HU.out.lt k hk).1
    have h8 := HS.out.size
    omega
  have ht1 : ∀ k, (Value.slice ta s.slots.length tc).ownBlock = some k → w.heap.size ≤ k := fun k hk => by
    have h9 := (HT.out.lt k hk).1
    have h8 := KK.out.size
    omega
  have hp : ∀ k, pS w.heap.size (w3.setCell ⟨w.heap.size, 3, none⟩ (.slice ta s.slots.length tc)) k → w.heap.size ≤ k := fun k hk => by
    rcases (pS_of hB k).1 hk with rfl | h | h
    · exact Nat.le_refl _
    · exact hu1 k h
    · exact ht1 k h
  refine ⟨w.heap.size, rfl, ⟨⟨_, _, hB, (OwnM.of HU.out).kept hK2 (fun k hk e => own_apart HU.out HB2.out (by decide) (by rw [hk, e])), (OwnM.of HT.out).kept hK3 (fun k hk e => own_apart HT.out HB3.out (by decide) (by rw [hk, e]))⟩, HOK.out, fun e => by have := hp _ e; have := HLT.out; omega⟩, hS, hp⟩
end Go.Proofs.YtafdkfieajdeiaaDoor
