/- journal: two pairs of Writers, apart from each other. -/
import Derived.Test.YtljbmpnpbjnbkaaDoorJE4
import Derived.Deep.RegionHeld
/- journal: the document's Fork: its drawn region by hand. -/
/- journal: the document's Writer: a room more that holds bytes. -/
namespace Go.Proofs.YtljbmpnpbjnbkaaDoor
open Go.RowKit
set_option linter.unusedVariables false
set_option linter.unusedSimpArgs false
theorem DL.moreU {g : Nat} {d : DSt} {w : World} {rv u : Value} {us : List Value} {x : List UInt8} (h : DL g d w rv us) {rv' : Value} {w1 : World} (hu : w.ownsRow 0 5 1 u x.length (x.map U8))
    (hun : ∀ (j : Nat) (y : Value) (k : Nat), us[j]? = some y → y.ownBlock = some k → u.ownBlock ≠ some k) (hg : w.grownBy w1 rv.ownBlock)
    (ho : w1.ownsRow 0 39 1 rv' (d.rooms.length + 1) (us ++ [u])) :
    DL g { d with rooms := d.rooms ++ [x] } (w1.setCell ⟨g, 3, none⟩ rv') rv' (us ++ [u]) := by
  have hgb := own_apart h.row h.box (by decide)
  have hbx1 := (hg.block g (blk_lt h.box) (fun e => hgb e.symm)).trans h.box
  have hk : Kept (fun k => rv.ownBlock = some k ∨ k = g) w (w1.setCell ⟨g, 3, none⟩ rv') := ((Kept.refl (fun k => rv.ownBlock = some k ∨ k = g) w).grown hg (fun k e _ => .inl e)).setCell (p := ⟨g, 3, none⟩) (.inr rfl) _
  have hk1 : Kept (fun k => k = g) w1 (w1.setCell ⟨g, 3, none⟩ rv') := (Kept.refl (fun k => k = g) w1).setCell (p := ⟨g, 3, none⟩) rfl _
  have hkr : ∀ (z : List UInt8) (v : Value), w.ownsRow 0 5 1 v z.length (z.map U8) → (w1.setCell ⟨g, 3, none⟩ rv').ownsRow 0 5 1 v z.length (z.map U8) := fun z v hoj => own_kept hoj hk (fun k hk e => by
    rcases e with e | e
    · obtain ⟨_, cs, hcs⟩ := own_bk h.row e
      exact own_apart hoj hcs (by decide) hk
    · exact own_apart hoj h.box (by decide) (by rw [hk, e]))
  have hat : ∀ (j : Nat) (v : Value), (us ++ [u])[j]? = some v → (us[j]? = some v ∧ j < us.length) ∨ (v = u ∧ j = us.length) := fun j v hv => by
    rcases Nat.lt_or_ge j us.length with hj | hj
    · rw [List.getElem?_append_left hj] at hv
      exact .inl ⟨hv, hj⟩
    · rw [List.getElem?_append_right hj] at hv
      have h0 : j - us.length = 0 := by
        have := (List.getElem?_eq_some_iff.1 hv).1
        simpa using this
      rw [h0] at hv
      exact .inr ⟨(by simpa using hv.symm), by omega⟩
  refine ⟨blk_set (j := 3) hbx1 rv', by simp [h.len], ?_, ?_, ?_⟩
  · rw [List.length_append]
    exact own_kept ho hk1 (fun k hk e => own_apart ho hbx1 (by decide) (by rw [hk, e]))
  · intro j z v hz hv
    have hln : us.length = d.rooms.length := h.len
    rcases hat j v hv with ⟨hv', hj⟩ | ⟨rfl, hj⟩
    · rw [List.getElem?_append_left (by omega)] at hz
      exact hkr z v (h.rooms j z v hz hv')
    · rw [List.getElem?_append_right (by omega), show j - d.rooms.length = 0 by omega] at hz
      obtain rfl : x = z := by simpa using hz
      exact hkr x v hu
  · intro j k v v' q hv hv' hq hq'
    rcases hat j v hv with ⟨hv1, hj⟩ | ⟨rfl, hj⟩
    · rcases hat k v' hv' with ⟨hv2, hk2⟩ | ⟨rfl, hk2⟩
      · exact h.apart j k v v' q hv1 hv2 hq hq'
      · exact absurd hq' (hun j v q hv1 hq)
    · rcases hat k v' hv' with ⟨hv2, hk2⟩ | ⟨rfl, hk2⟩
      · exact absurd hq (hun k v' q hv2 hq')
      · omega
theorem DL.fk {q B : Nat} {d0 : DSt} {W w2 w5 : World} {qv qv' u : Value} {vs : List Value} {A : List (List UInt8)} {x : List UInt8} {o : Obj}
    (hD : DL q { d0 with rooms := A } W qv vs) (hY : ∀ k, dS q qv vs k → B ≤ k) (hBW : B ≤ W.heap.size) (k2 : Same W w2) (hu : w2.ownsRow W.heap.size 5 1 u x.length (x.map U8))
    (hg : (w2.alloc o).grownBy w5 qv.ownBlock) (ho : w5.ownsRow 0 39 1 qv' (A.length + 1) (vs ++ [u])) (hat : qv'.ownBlock = qv.ownBlock ∨ qv'.ownBlock = some (w2.alloc o).heap.size) :
    DL q { d0 with rooms := A ++ [x] } (w5.setCell ⟨q, 3, none⟩ qv') qv' (vs ++ [u]) ∧ (∀ k, dS q qv' (vs ++ [u]) k → B ≤ k) := by
  have hs2 := k2.size
  refine ⟨(hD.same (k2.alloc o)).moreU ((own_mono hu (Nat.zero_le _)).alloc o) (fun j y k hy e1 e2 => ?_) hg ho, fun k hk => ?_⟩
  · have h1 := hD.lt (k := k) (.inr (.inr ⟨j, y, hy, e1⟩))
    have h2 := (own_bk hu e2).1
    omega
  · rcases hk with e | e | ⟨j, y, hy, e⟩
    · exact hY k (.inl e)
    · rcases hat with h | h
      · exact hY k (.inr (.inl (by rw [← h]; exact e)))
      · rw [h] at e
        cases e
        have : (w2.alloc o).heap.size = w2.heap.size + 1 := by simp
        omega
    · rcases Nat.lt_or_ge j vs.length with hj | hj
      · rw [List.getElem?_append_left hj] at hy
        exact hY k (.inr (.inr ⟨j, y, hy, e⟩))
      · rw [List.getElem?_append_right hj] at hy
        have h0 : j - vs.length = 0 := by
          have := (List.getElem?_eq_some_iff.1 hy).1
          simpa using this
        rw [h0] at hy
        obtain rfl : u = y := by simpa using hy
        have := (own_bk hu e).1
        omega
end Go.Proofs.YtljbmpnpbjnbkaaDoor
namespace Go.Proofs.YtljbmpnpbjnbkaaDoor
open Go.RowKit
set_option linter.unusedVariables false
set_option linter.unusedSimpArgs false
set_option maxHeartbeats 1000000 in
set_option maxRecDepth 100000 in
theorem forkD_any {g : Nat} {d : DSt} {w : World} {rv0 : Value} {us : List Value} (h : DL g d w rv0 us) (hR : d.rooms.length ≤ 4096) (hX : ∀ x ∈ d.rooms, x.length ≤ 4096) : Calls Tryd.prog 27 #[.pointer (some ⟨g, 0, none⟩)] w fun e w' => ∃ rv' us', e = .returned (.pointer (some ⟨w.heap.size, 0, none⟩)) ∧ DL w.heap.size d w' rv' us' ∧ (∀ k, dS w.heap.size rv' us' k → w.heap.size ≤ k) ∧ Same w w' := by
  obtain ⟨i0, hi0, hz0, hz1, hz2⟩ := info_parts info5
  obtain ⟨iR, hiR, hr0, hr1, hr2⟩ := info_parts infoRo
  obtain ⟨M, hM⟩ : ∃ M, M = d.rooms.length := ⟨_, rfl⟩
  obtain ⟨ra, rcap, hrv⟩ : ∃ a c, rv0 = .slice a M c := by
    obtain ⟨a, c, e⟩ := own_form h.row
    exact ⟨a, c, by rw [e, hM]⟩
  subst hrv
  have H := hidden h
  have HX0 := hidden hX
  have hMb : M ≤ 4096 := by omega
  have HM := hidden hM
  have hb := h.box
  have c0 : w.cell? ⟨g, 0, none⟩ = some (.int .i64 d.size) := blk_cell hb
  have c1 : w.cell? ⟨g, 1, none⟩ = some (.int .i64 d.sectors) := blk_cell hb
  have c2 : w.cell? ⟨g, 2, none⟩ = some (.int .u64 d.gen) := blk_cell hb
  have c3 : w.cell? ⟨g, 3, none⟩ = some (.slice ra M rcap) := blk_cell hb
  have c4 : w.cell? ⟨g, 4, none⟩ = some (.int .i64 d.taken) := blk_cell hb
  have c5 : w.cell? ⟨g, 5, none⟩ = some (.int .i64 d.count) := blk_cell hb
  have HN := hidden (blk_new w (.cells #[.int .i64 d.size, .int .i64 d.sectors, .int .u64 d.gen, .slice ra M rcap, .int .i64 d.taken, .int .i64 d.count] 44))
  have HSA := hidden (same_alloc w (.cells #[.int .i64 d.size, .int .i64 d.sectors, .int .u64 d.gen, .slice ra M rcap, .int .i64 d.taken, .int .i64 d.count] 44))
  clear h hX hM hb hR
  go_enter Tryd.func27, Tryd.ntmps27
  go_wp2
  go_loopw [4] (fun v wr => ∃ (k : Nat) (qv : Value) (vs : List Value), v = .int .i64 k ∧ k ≤ M ∧ DL w.heap.size { d with rooms := d.rooms.take k } wr qv vs ∧ (∀ b, dS w.heap.size qv vs b → w.heap.size ≤ b) ∧ Same w wr) (fun v _ => M - (intOf v).toNat)
  case atStart =>
    refine ⟨0, .slice none 0 0, [], rfl, Nat.zero_le _, ⟨blk_new _ _, rfl, World.ownsRow_nil _ _ _ _, fun i x u hx _ => by simp at hx, fun i j u u' k hu => by simp at hu⟩, fun b hb => ?_, same_alloc _ _⟩
    rcases hb with e | e | ⟨j, y, hy, e⟩
    · omega
    · cases e
    · simp at hy
  case round =>
    obtain ⟨k, qv, vs, rfl, hk, hD, hY, hK⟩ := hrel
    have HDq := hidden hD
    have HY := hidden hY
    have HKw := hidden hK
    by_cases h1 : k < M
    · obtain ⟨x, hx⟩ : ∃ x, d.rooms[k]? = some x := ⟨_, List.getElem?_eq_getElem (by have := HM.out; omega)⟩
      obtain ⟨u0, hu0⟩ : ∃ u, us[k]? = some u := ⟨_, List.getElem?_eq_getElem (by have := HM.out; have := H.out.len; omega)⟩
      obtain ⟨rb, rcap', rcs, hrv, hrb, hrc⟩ := own_atB H.out.row hu0
      injection hrv with hv1 hv2 hv3
      subst hv1
      have hou := H.out.rooms k x u0 hx hu0
      obtain ⟨ua, uc, hua⟩ := own_form hou
      subst hua
      have hxl := HX0.out x (List.mem_of_getElem? hx)
      obtain ⟨xl, hxl'⟩ : ∃ xl, xl = x.length := ⟨_, rfl⟩
      rw [← hxl'] at hu0 hrc hxl
      have HXl : Hid (x.length = xl) := hidden hxl'.symm
      have HLi : Hid (∀ W, Same wr W → Lies W ua xl (x.map U8)) := hidden (fun W kk => by
        rw [hxl']
        exact (Bt.own (own_kept hou (hK.trans kk) (fun _ _ h => h))).liesK)
      have d3 : wr.cell? ⟨g, 3, none⟩ = some (.slice (some ⟨rb, 0, none⟩) M rcap) := hK.cell (fun h => h) c3
      have dc : wr.cell? ⟨rb, k, none⟩ = some (.slice ua xl uc) := hK.cell (fun h => h) ((blk_cell hrb).trans hrc)
      have hgl : g < w.heap.size := blk_lt H.out.box
      have hrl : rb < w.heap.size := blk_lt hrb
      have HS : Hid (∀ W, Kept (fun b : Nat => w.heap.size ≤ b) wr W → (fun w' : World => w'.cell? ⟨g, 3, none⟩ = some (.slice (some ⟨rb, 0, none⟩) M rcap) ∧ w'.cell? ⟨rb, k, none⟩ = some (.slice ua xl uc)) W) := hidden (fun W kk => ⟨Kept.cell kk (by show ¬ w.heap.size ≤ g; omega) d3, Kept.cell kk (by show ¬ w.heap.size ≤ rb; omega) dc⟩)
      have hbq := hD.box
      have HBq := hidden hbq
      have dq : wr.cell? ⟨w.heap.size, 3, none⟩ = some qv := blk_cell hbq
      have dqa : ∀ o, (wr.alloc o).cell? ⟨w.heap.size, 3, none⟩ = some qv := fun o => blk_cell (blk_alloc hbq o)
      have hAl : (d.rooms.take k).length = k := by rw [List.length_take]; have := HM.out; omega
      have HAl := hidden hAl
      have HRq : Hid (wr.ownsRow 0 39 1 qv k vs) := hidden (by have := hD.row; rw [show ({ d with rooms := d.rooms.take k } : DSt).rooms.length = k from hAl] at this; exact this)
      obtain ⟨qa, qc, hqf⟩ := own_form HRq.out
      subst hqf
      have HAt : Hid (d.rooms.take (k + 1) = d.rooms.take k ++ [x]) := hidden (by rw [List.take_add_one, hx]; rfl)
      have HLt := hidden h1
      have HBW : Hid (w.heap.size ≤ wr.heap.size) := hidden hK.size
      have m5 : Hid (0 + xl ≤ maxLen) := hidden (by unfold maxLen; omega)
      have m6 : Hid ((0 + xl) * 1 ≤ 140737488355328) := hidden (by omega)
      have m1 : Hid (k + 1 ≤ maxLen) := hidden (by unfold maxLen; omega)
      have m2 : Hid ((k + 1) * 24 ≤ 140737488355328) := hidden (by omega)
      have q0 : (0 : Int) ≤ (k : Int) := Int.natCast_nonneg _
      have q1 : (k : Int) < (M : Int) := by omega
      have hmx : Tryd.prog.follows .mixedOrders = true := by kernel_rfl
      clear hD hY hK hx hu0 hrb hrc hou hxl' hbq hAl h1 hv2 hv3
      go_wp2
      refine wp_region_held_drew (S := (fun w' : World => w'.cell? ⟨g, 3, none⟩ = some (.slice (some ⟨rb, 0, none⟩) M rcap) ∧ w'.cell? ⟨rb, k, none⟩ = some (.slice ua xl uc))) hmx (HS.out _ ((Kept.refl (fun b : Nat => w.heap.size ≤ b) wr).drew)) (fun _ => ?_)
      refine wpAnyH_take (i := 0) (v := (.pointer (some ⟨w.heap.size, 3, none⟩))) rfl (by kernel_rfl) (by kernel_rfl) (by kernel_rfl) (fun _ _ _ h => h) (Or.inl ⟨by rfl, (by intro w hSw; obtain ⟨s1, s2⟩ := hSw; go_simp; try rfl)⟩) (HS.out _ (((Kept.refl (fun b : Nat => w.heap.size ≤ b) wr).drew))) ?_; (try go_simp)
      refine wpAnyH_take (i := 3) (v := (.pointer (some ⟨g, 0, none⟩))) rfl (by kernel_rfl) (by kernel_rfl) (by kernel_rfl) (fun _ _ _ h => h) (Or.inl ⟨by rfl, (by intro w hSw; obtain ⟨s1, s2⟩ := hSw; go_simp; try rfl)⟩) (HS.out _ (((Kept.refl (fun b : Nat => w.heap.size ≤ b) wr).drew))) ?_; (try go_simp)
      refine wpAnyH_take (i := 4) (v := (.pointer (some ⟨g, 0, none⟩))) rfl (by kernel_rfl) (by kernel_rfl) (by kernel_rfl) (fun _ _ _ h => h) (Or.inl ⟨by rfl, (by intro w hSw; obtain ⟨s1, s2⟩ := hSw; go_simp; try rfl)⟩) (HS.out _ (((Kept.refl (fun b : Nat => w.heap.size ≤ b) wr).drew))) ?_; (try go_simp)
      refine wpAnyH_take (i := 5) (v := (.pointer (some ⟨g, 3, none⟩))) rfl (by kernel_rfl) (by kernel_rfl) (by kernel_rfl) (fun _ _ _ h => h) (Or.inl ⟨by rfl, (by intro w hSw; obtain ⟨s1, s2⟩ := hSw; go_simp; try rfl)⟩) (HS.out _ (((Kept.refl (fun b : Nat => w.heap.size ≤ b) wr).drew))) ?_; (try go_simp)
      refine wpAnyH_take (i := 6) (v := (.slice (some ⟨rb, 0, none⟩) M rcap)) rfl (by kernel_rfl) (by kernel_rfl) (by kernel_rfl) (fun _ _ _ h => h) (Or.inl ⟨by rfl, (by intro w hSw; obtain ⟨s1, s2⟩ := hSw; go_simp; try rfl)⟩) (HS.out _ (((Kept.refl (fun b : Nat => w.heap.size ≤ b) wr).drew))) ?_; (try go_simp)
      refine wpAnyH_take (i := 7) (v := (.int .i64 (k : Int))) rfl (by kernel_rfl) (by kernel_rfl) (by kernel_rfl) (fun _ _ _ h => h) (Or.inl ⟨by rfl, (by intro w hSw; obtain ⟨s1, s2⟩ := hSw; go_simp; try rfl)⟩) (HS.out _ (((Kept.refl (fun b : Nat => w.heap.size ≤ b) wr).drew))) ?_; (try go_simp)
      refine wpAnyH_take (i := 8) (v := (.pointer (some ⟨rb, k, none⟩))) rfl (by kernel_rfl) (by kernel_rfl) (by kernel_rfl) (fun _ _ _ h => h) (Or.inl ⟨by rfl, (by intro w hSw; obtain ⟨s1, s2⟩ := hSw; go_simp; try rfl)⟩) (HS.out _ (((Kept.refl (fun b : Nat => w.heap.size ≤ b) wr).drew))) ?_; (try go_simp)
      refine wpAnyH_take (i := 9) (v := (.slice ua xl uc)) rfl (by kernel_rfl) (by kernel_rfl) (by kernel_rfl) (fun _ _ _ h => h) (Or.inl ⟨by rfl, (by intro w hSw; obtain ⟨s1, s2⟩ := hSw; go_simp; try rfl)⟩) (HS.out _ (((Kept.refl (fun b : Nat => w.heap.size ≤ b) wr).drew))) ?_; (try go_simp)
      refine wpAnyH_ready (rs := [1, 2]) (by kernel_rfl) (by simp) ?_; refine (AllReadyH.cons rfl (fun K hK => ?_) (AllReadyH.cons rfl (fun K hK => ?_) AllReadyH.nil))
      · skip
        go_simp
        refine hK.out _ _ (HS.out _ (((Kept.refl (fun b : Nat => w.heap.size ≤ b) wr).drew))) (fun _ => ?_); clear hK K; (try go_simp)
        refine wpAnyH_ready (rs := [2]) (by kernel_rfl) (by simp) ?_; refine (AllReadyH.cons rfl (fun K hK => ?_) AllReadyH.nil)
        go_simp
        refine hK.out _ _ (HS.out _ ((((Kept.refl (fun b : Nat => w.heap.size ≤ b) wr).drew).alloc (.cells #[] 5)))) (fun _ => ?_); clear hK K; (try go_simp)
        refine wpAnyH_ready (rs := [10]) (by kernel_rfl) (by simp) ?_; refine (AllReadyH.cons rfl (fun K hK => ?_) AllReadyH.nil)
        refine step_append_any (by rfl) _ _ 39 (by rfl) wr.heap.size 5 i0 _ 1 1 Tryd.underlying39 hi0 hz0 hz1 hz2 rfl (by decide) _ 0 _ [] (by rfl) (own_kept (World.ownsRow_made wr #[] 0 (Nat.le_refl _) (by decide) (by decide)) ((Kept.refl (fun _ => False) _).drew) (fun _ _ h => h)) ua xl uc (x.map U8) (by rfl) (by rw [List.length_map, HXl.out, Nat.mul_one]) (HLi.out _ ((Kept.refl (fun _ => False) wr).drew.alloc _)) (U8_all x) m5.out m6.out (by simp) ?_
        intro a2 c2 w2 hown2 hgrow2
        rw [Nat.zero_add, List.nil_append] at hown2
        have k2 : Same wr w2 := ((Kept.refl (fun _ => False) wr).drew.alloc _).grown hgrow2 (fun k hk hl => by simp [Value.ownBlock] at hk; omega)
        have b2 := blk_kept k2 (fun h => h) HBq.out
        have e2 : w2.cell? ⟨w.heap.size, 3, none⟩ = some (.slice qa k qc) := blk_cell b2
        have e2a : ∀ o, (w2.alloc o).cell? ⟨w.heap.size, 3, none⟩ = some (.slice qa k qc) := (fun o => blk_cell (blk_alloc b2 o))
        have O2 := hidden hown2
        have B2 := hidden b2
        have K2 := hidden k2
        clear hown2 hgrow2 b2 k2
        refine hK.out _ _ (HS.out _ (K2.out.mono (fun _ _ h => h.elim))) (fun _ => ?_); clear hK K; (try go_simp)
        refine wpAnyH_ready (rs := [11]) (by kernel_rfl) (by simp) ?_; refine (AllReadyH.cons rfl (fun K hK => ?_) AllReadyH.nil)
        go_simp
        refine hK.out _ _ (HS.out _ ((K2.out.mono (T := (fun b : Nat => w.heap.size ≤ b)) (fun _ _ h => h.elim)).alloc _)) (fun _ => ?_); clear hK K; (try go_simp)
        refine wpAnyH_ready (rs := [12]) (by kernel_rfl) (by simp) ?_; refine (AllReadyH.cons rfl (fun K hK => ?_) AllReadyH.nil)
        refine step_append_atP (by rfl) _ _ 42 (by rfl) 0 39 iR _ 1 24 Tryd.underlying42 hiR hr0 hr1 hr2 rfl (by decide) _ _ _ (by rfl) ((own_kept HRq.out K2.out (fun _ _ h => h)).alloc _) ⟨w2.heap.size, 0, none⟩ 1 1 _ (by rfl) (by rfl) (World.news_of_block (show _ = _ from heap_alloc_new w2 (.cells #[.slice a2 xl c2] 39))) (by simp [Value.oneCell']) m1.out m2.out (Nat.zero_le _) ?_
        intro v5 w5 hown5 hgrow5 hat5
        obtain ⟨a5, c5, hv5⟩ := own_form hown5
        subst hv5
        have ng := own_apart (own_kept HRq.out K2.out (fun _ _ h => h)) B2.out (by decide)
        have b5 : w5.heap[w.heap.size]? = _ := (hgrow5.block w.heap.size (by have := blk_lt B2.out; simp; omega) (Ne.symm ng)).trans (blk_alloc B2.out _)
        have K5 : Hid (Kept (fun b : Nat => w.heap.size ≤ b) wr w5) := hidden (((K2.out.mono (T := (fun b : Nat => w.heap.size ≤ b)) (fun _ _ h => h.elim)).alloc _).grown hgrow5 (fun k hk _ => HY.out k (.inr (.inl hk))))
        have g5 : w5.cell? ⟨w.heap.size, 3, none⟩ = some (.slice qa k qc) := blk_cell b5
        have y5 : w5.frozen? ⟨w.heap.size, 3, none⟩ = false := blk_free b5
        have HO5 := hidden hown5
        have HG5 := hidden hgrow5
        have HT5 := hidden hat5
        clear hown5 hgrow5 hat5 b5 ng
        refine hK.out _ _ (HS.out _ (K5.out)) (fun _ => ?_); clear hK K; (try go_simp)
        refine wpAnyH_take (i := 13) (v := (.pointer (some ⟨w.heap.size, 3, none⟩))) rfl (by kernel_rfl) (by kernel_rfl) (by kernel_rfl) (fun _ _ _ h => h) (Or.inl ⟨by rfl, (by intro w hSw; obtain ⟨s1, s2⟩ := hSw; go_simp; try rfl)⟩) (HS.out _ (K5.out)) ?_; (try go_simp)
        refine wpAnyH_ready (rs := [14]) (by kernel_rfl) (by simp) ?_; refine (AllReadyH.cons rfl (fun K hK => ?_) AllReadyH.nil); go_simp
        refine hK.out _ _ (HS.out _ (K5.out.trans ((Kept.refl (fun b : Nat => w.heap.size ≤ b) _).setCell (p := ⟨w.heap.size, 3, none⟩) (Nat.le_refl _) _))) (fun _ => ?_); clear hK K; (try go_simp)
        refine wpAnyH_done (by kernel_rfl) ?_ _
        clear d3 dc dq dqa e2 e2a g5 y5
        go_wp2
        obtain ⟨z1, z2⟩ := HDq.out.fk HY.out HBW.out K2.out (x := x) (by rw [HXl.out]; exact O2.out) HG5.out (by rw [HAl.out]; exact HO5.out) HT5.out
        have z3 := HKw.out.trans' (K5.out.trans ((Kept.refl (fun b : Nat => w.heap.size ≤ b) _).setCell (p := ⟨w.heap.size, 3, none⟩) (Nat.le_refl _) (.slice a5 (k + 1) c5))) (fun i hi hb => by omega)
        exact ⟨⟨k + 1, .slice a5 (k + 1) c5, vs ++ [.slice a2 xl c2], by go_num, by have := HLt.out; omega, by rw [← HAt.out] at z1; exact z1, z2, z3⟩, by simp [intOf]; have := HLt.out; omega⟩
      · skip
        go_simp
        refine hK.out _ _ (HS.out _ ((((Kept.refl (fun b : Nat => w.heap.size ≤ b) wr).drew).alloc (.cells #[] 5)))) (fun _ => ?_); clear hK K; (try go_simp)
        refine wpAnyH_ready (rs := [1, 10]) (by kernel_rfl) (by simp) ?_; refine (AllReadyH.cons rfl (fun K hK => ?_) (AllReadyH.cons rfl (fun K hK => ?_) AllReadyH.nil))
        · skip
          go_simp
          refine hK.out _ _ (HS.out _ ((((Kept.refl (fun b : Nat => w.heap.size ≤ b) wr).drew).alloc (.cells #[] 5)))) (fun _ => ?_); clear hK K; (try go_simp)
          refine wpAnyH_ready (rs := [10]) (by kernel_rfl) (by simp) ?_; refine (AllReadyH.cons rfl (fun K hK => ?_) AllReadyH.nil)
          refine step_append_any (by rfl) _ _ 39 (by rfl) wr.heap.size 5 i0 _ 1 1 Tryd.underlying39 hi0 hz0 hz1 hz2 rfl (by decide) _ 0 _ [] (by rfl) (own_kept (World.ownsRow_made wr #[] 0 (Nat.le_refl _) (by decide) (by decide)) ((Kept.refl (fun _ => False) _).drew) (fun _ _ h => h)) ua xl uc (x.map U8) (by rfl) (by rw [List.length_map, HXl.out, Nat.mul_one]) (HLi.out _ ((Kept.refl (fun _ => False) wr).drew.alloc _)) (U8_all x) m5.out m6.out (by simp) ?_
          intro a2 c2 w2 hown2 hgrow2
          rw [Nat.zero_add, List.nil_append] at hown2
          have k2 : Same wr w2 := ((Kept.refl (fun _ => False) wr).drew.alloc _).grown hgrow2 (fun k hk hl => by simp [Value.ownBlock] at hk; omega)
          have b2 := blk_kept k2 (fun h => h) HBq.out
          have e2 : w2.cell? ⟨w.heap.size, 3, none⟩ = some (.slice qa k qc) := blk_cell b2
          have e2a : ∀ o, (w2.alloc o).cell? ⟨w.heap.size, 3, none⟩ = some (.slice qa k qc) := (fun o => blk_cell (blk_alloc b2 o))
          have O2 := hidden hown2
          have B2 := hidden b2
          have K2 := hidden k2
          clear hown2 hgrow2 b2 k2
          refine hK.out _ _ (HS.out _ (K2.out.mono (fun _ _ h => h.elim))) (fun _ => ?_); clear hK K; (try go_simp)
          refine wpAnyH_ready (rs := [11]) (by kernel_rfl) (by simp) ?_; refine (AllReadyH.cons rfl (fun K hK => ?_) AllReadyH.nil)
          go_simp
          refine hK.out _ _ (HS.out _ ((K2.out.mono (T := (fun b : Nat => w.heap.size ≤ b)) (fun _ _ h => h.elim)).alloc _)) (fun _ => ?_); clear hK K; (try go_simp)
          refine wpAnyH_ready (rs := [12]) (by kernel_rfl) (by simp) ?_; refine (AllReadyH.cons rfl (fun K hK => ?_) AllReadyH.nil)
          refine step_append_atP (by rfl) _ _ 42 (by rfl) 0 39 iR _ 1 24 Tryd.underlying42 hiR hr0 hr1 hr2 rfl (by decide) _ _ _ (by rfl) ((own_kept HRq.out K2.out (fun _ _ h => h)).alloc _) ⟨w2.heap.size, 0, none⟩ 1 1 _ (by rfl) (by rfl) (World.news_of_block (show _ = _ from heap_alloc_new w2 (.cells #[.slice a2 xl c2] 39))) (by simp [Value.oneCell']) m1.out m2.out (Nat.zero_le _) ?_
          intro v5 w5 hown5 hgrow5 hat5
          obtain ⟨a5, c5, hv5⟩ := own_form hown5
          subst hv5
          have ng := own_apart (own_kept HRq.out K2.out (fun _ _ h => h)) B2.out (by decide)
          have b5 : w5.heap[w.heap.size]? = _ := (hgrow5.block w.heap.size (by have := blk_lt B2.out; simp; omega) (Ne.symm ng)).trans (blk_alloc B2.out _)
          have K5 : Hid (Kept (fun b : Nat => w.heap.size ≤ b) wr w5) := hidden (((K2.out.mono (T := (fun b : Nat => w.heap.size ≤ b)) (fun _ _ h => h.elim)).alloc _).grown hgrow5 (fun k hk _ => HY.out k (.inr (.inl hk))))
          have g5 : w5.cell? ⟨w.heap.size, 3, none⟩ = some (.slice qa k qc) := blk_cell b5
          have y5 : w5.frozen? ⟨w.heap.size, 3, none⟩ = false := blk_free b5
          have HO5 := hidden hown5
          have HG5 := hidden hgrow5
          have HT5 := hidden hat5
          clear hown5 hgrow5 hat5 b5 ng
          refine hK.out _ _ (HS.out _ (K5.out)) (fun _ => ?_); clear hK K; (try go_simp)
          refine wpAnyH_take (i := 13) (v := (.pointer (some ⟨w.heap.size, 3, none⟩))) rfl (by kernel_rfl) (by kernel_rfl) (by kernel_rfl) (fun _ _ _ h => h) (Or.inl ⟨by rfl, (by intro w hSw; obtain ⟨s1, s2⟩ := hSw; go_simp; try rfl)⟩) (HS.out _ (K5.out)) ?_; (try go_simp)
          refine wpAnyH_ready (rs := [14]) (by kernel_rfl) (by simp) ?_; refine (AllReadyH.cons rfl (fun K hK => ?_) AllReadyH.nil); go_simp
          refine hK.out _ _ (HS.out _ (K5.out.trans ((Kept.refl (fun b : Nat => w.heap.size ≤ b) _).setCell (p := ⟨w.heap.size, 3, none⟩) (Nat.le_refl _) _))) (fun _ => ?_); clear hK K; (try go_simp)
          refine wpAnyH_done (by kernel_rfl) ?_ _
          clear d3 dc dq dqa e2 e2a g5 y5
          go_wp2
          obtain ⟨z1, z2⟩ := HDq.out.fk HY.out HBW.out K2.out (x := x) (by rw [HXl.out]; exact O2.out) HG5.out (by rw [HAl.out]; exact HO5.out) HT5.out
          have z3 := HKw.out.trans' (K5.out.trans ((Kept.refl (fun b : Nat => w.heap.size ≤ b) _).setCell (p := ⟨w.heap.size, 3, none⟩) (Nat.le_refl _) (.slice a5 (k + 1) c5))) (fun i hi hb => by omega)
          exact ⟨⟨k + 1, .slice a5 (k + 1) c5, vs ++ [.slice a2 xl c2], by go_num, by have := HLt.out; omega, by rw [← HAt.out] at z1; exact z1, z2, z3⟩, by simp [intOf]; have := HLt.out; omega⟩
        · skip
          refine step_append_any (by rfl) _ _ 39 (by rfl) wr.heap.size 5 i0 _ 1 1 Tryd.underlying39 hi0 hz0 hz1 hz2 rfl (by decide) _ 0 _ [] (by rfl) (own_kept (World.ownsRow_made wr #[] 0 (Nat.le_refl _) (by decide) (by decide)) ((Kept.refl (fun _ => False) _).drew) (fun _ _ h => h)) ua xl uc (x.map U8) (by rfl) (by rw [List.length_map, HXl.out, Nat.mul_one]) (HLi.out _ ((Kept.refl (fun _ => False) wr).drew.alloc _)) (U8_all x) m5.out m6.out (by simp) ?_
          intro a2 c2 w2 hown2 hgrow2
          rw [Nat.zero_add, List.nil_append] at hown2
          have k2 : Same wr w2 := ((Kept.refl (fun _ => False) wr).drew.alloc _).grown hgrow2 (fun k hk hl => by simp [Value.ownBlock] at hk; omega)
          have b2 := blk_kept k2 (fun h => h) HBq.out
          have e2 : w2.cell? ⟨w.heap.size, 3, none⟩ = some (.slice qa k qc) := blk_cell b2
          have e2a : ∀ o, (w2.alloc o).cell? ⟨w.heap.size, 3, none⟩ = some (.slice qa k qc) := (fun o => blk_cell (blk_alloc b2 o))
          have O2 := hidden hown2
          have B2 := hidden b2
          have K2 := hidden k2
          clear hown2 hgrow2 b2 k2
          refine hK.out _ _ (HS.out _ (K2.out.mono (fun _ _ h => h.elim))) (fun _ => ?_); clear hK K; (try go_simp)
          refine wpAnyH_ready (rs := [1, 11]) (by kernel_rfl) (by simp) ?_; refine (AllReadyH.cons rfl (fun K hK => ?_) (AllReadyH.cons rfl (fun K hK => ?_) AllReadyH.nil))
          · skip
            go_simp
            refine hK.out _ _ (HS.out _ (K2.out.mono (fun _ _ h => h.elim))) (fun _ => ?_); clear hK K; (try go_simp)
            refine wpAnyH_ready (rs := [11]) (by kernel_rfl) (by simp) ?_; refine (AllReadyH.cons rfl (fun K hK => ?_) AllReadyH.nil)
            go_simp
            refine hK.out _ _ (HS.out _ ((K2.out.mono (T := (fun b : Nat => w.heap.size ≤ b)) (fun _ _ h => h.elim)).alloc _)) (fun _ => ?_); clear hK K; (try go_simp)
            refine wpAnyH_ready (rs := [12]) (by kernel_rfl) (by simp) ?_; refine (AllReadyH.cons rfl (fun K hK => ?_) AllReadyH.nil)
            refine step_append_atP (by rfl) _ _ 42 (by rfl) 0 39 iR _ 1 24 Tryd.underlying42 hiR hr0 hr1 hr2 rfl (by decide) _ _ _ (by rfl) ((own_kept HRq.out K2.out (fun _ _ h => h)).alloc _) ⟨w2.heap.size, 0, none⟩ 1 1 _ (by rfl) (by rfl) (World.news_of_block (show _ = _ from heap_alloc_new w2 (.cells #[.slice a2 xl c2] 39))) (by simp [Value.oneCell']) m1.out m2.out (Nat.zero_le _) ?_
            intro v5 w5 hown5 hgrow5 hat5
            obtain ⟨a5, c5, hv5⟩ := own_form hown5
            subst hv5
            have ng := own_apart (own_kept HRq.out K2.out (fun _ _ h => h)) B2.out (by decide)
            have b5 : w5.heap[w.heap.size]? = _ := (hgrow5.block w.heap.size (by have := blk_lt B2.out; simp; omega) (Ne.symm ng)).trans (blk_alloc B2.out _)
            have K5 : Hid (Kept (fun b : Nat => w.heap.size ≤ b) wr w5) := hidden (((K2.out.mono (T := (fun b : Nat => w.heap.size ≤ b)) (fun _ _ h => h.elim)).alloc _).grown hgrow5 (fun k hk _ => HY.out k (.inr (.inl hk))))
            have g5 : w5.cell? ⟨w.heap.size, 3, none⟩ = some (.slice qa k qc) := blk_cell b5
            have y5 : w5.frozen? ⟨w.heap.size, 3, none⟩ = false := blk_free b5
            have HO5 := hidden hown5
            have HG5 := hidden hgrow5
            have HT5 := hidden hat5
            clear hown5 hgrow5 hat5 b5 ng
            refine hK.out _ _ (HS.out _ (K5.out)) (fun _ => ?_); clear hK K; (try go_simp)
            refine wpAnyH_take (i := 13) (v := (.pointer (some ⟨w.heap.size, 3, none⟩))) rfl (by kernel_rfl) (by kernel_rfl) (by kernel_rfl) (fun _ _ _ h => h) (Or.inl ⟨by rfl, (by intro w hSw; obtain ⟨s1, s2⟩ := hSw; go_simp; try rfl)⟩) (HS.out _ (K5.out)) ?_; (try go_simp)
            refine wpAnyH_ready (rs := [14]) (by kernel_rfl) (by simp) ?_; refine (AllReadyH.cons rfl (fun K hK => ?_) AllReadyH.nil); go_simp
            refine hK.out _ _ (HS.out _ (K5.out.trans ((Kept.refl (fun b : Nat => w.heap.size ≤ b) _).setCell (p := ⟨w.heap.size, 3, none⟩) (Nat.le_refl _) _))) (fun _ => ?_); clear hK K; (try go_simp)
            refine wpAnyH_done (by kernel_rfl) ?_ _
            clear d3 dc dq dqa e2 e2a g5 y5
            go_wp2
            obtain ⟨z1, z2⟩ := HDq.out.fk HY.out HBW.out K2.out (x := x) (by rw [HXl.out]; exact O2.out) HG5.out (by rw [HAl.out]; exact HO5.out) HT5.out
            have z3 := HKw.out.trans' (K5.out.trans ((Kept.refl (fun b : Nat => w.heap.size ≤ b) _).setCell (p := ⟨w.heap.size, 3, none⟩) (Nat.le_refl _) (.slice a5 (k + 1) c5))) (fun i hi hb => by omega)
            exact ⟨⟨k + 1, .slice a5 (k + 1) c5, vs ++ [.slice a2 xl c2], by go_num, by have := HLt.out; omega, by rw [← HAt.out] at z1; exact z1, z2, z3⟩, by simp [intOf]; have := HLt.out; omega⟩
          · skip
            go_simp
            refine hK.out _ _ (HS.out _ ((K2.out.mono (T := (fun b : Nat => w.heap.size ≤ b)) (fun _ _ h => h.elim)).alloc _)) (fun _ => ?_); clear hK K; (try go_simp)
            refine wpAnyH_ready (rs := [1]) (by kernel_rfl) (by simp) ?_; refine (AllReadyH.cons rfl (fun K hK => ?_) AllReadyH.nil)
            go_simp
            refine hK.out _ _ (HS.out _ ((K2.out.mono (T := (fun b : Nat => w.heap.size ≤ b)) (fun _ _ h => h.elim)).alloc _)) (fun _ => ?_); clear hK K; (try go_simp)
            refine wpAnyH_ready (rs := [12]) (by kernel_rfl) (by simp) ?_; refine (AllReadyH.cons rfl (fun K hK => ?_) AllReadyH.nil)
            refine step_append_atP (by rfl) _ _ 42 (by rfl) 0 39 iR _ 1 24 Tryd.underlying42 hiR hr0 hr1 hr2 rfl (by decide) _ _ _ (by rfl) ((own_kept HRq.out K2.out (fun _ _ h => h)).alloc _) ⟨w2.heap.size, 0, none⟩ 1 1 _ (by rfl) (by rfl) (World.news_of_block (show _ = _ from heap_alloc_new w2 (.cells #[.slice a2 xl c2] 39))) (by simp [Value.oneCell']) m1.out m2.out (Nat.zero_le _) ?_
            intro v5 w5 hown5 hgrow5 hat5
            obtain ⟨a5, c5, hv5⟩ := own_form hown5
            subst hv5
            have ng := own_apart (own_kept HRq.out K2.out (fun _ _ h => h)) B2.out (by decide)
            have b5 : w5.heap[w.heap.size]? = _ := (hgrow5.block w.heap.size (by have := blk_lt B2.out; simp; omega) (Ne.symm ng)).trans (blk_alloc B2.out _)
            have K5 : Hid (Kept (fun b : Nat => w.heap.size ≤ b) wr w5) := hidden (((K2.out.mono (T := (fun b : Nat => w.heap.size ≤ b)) (fun _ _ h => h.elim)).alloc _).grown hgrow5 (fun k hk _ => HY.out k (.inr (.inl hk))))
            have g5 : w5.cell? ⟨w.heap.size, 3, none⟩ = some (.slice qa k qc) := blk_cell b5
            have y5 : w5.frozen? ⟨w.heap.size, 3, none⟩ = false := blk_free b5
            have HO5 := hidden hown5
            have HG5 := hidden hgrow5
            have HT5 := hidden hat5
            clear hown5 hgrow5 hat5 b5 ng
            refine hK.out _ _ (HS.out _ (K5.out)) (fun _ => ?_); clear hK K; (try go_simp)
            refine wpAnyH_take (i := 13) (v := (.pointer (some ⟨w.heap.size, 3, none⟩))) rfl (by kernel_rfl) (by kernel_rfl) (by kernel_rfl) (fun _ _ _ h => h) (Or.inl ⟨by rfl, (by intro w hSw; obtain ⟨s1, s2⟩ := hSw; go_simp; try rfl)⟩) (HS.out _ (K5.out)) ?_; (try go_simp)
            refine wpAnyH_ready (rs := [14]) (by kernel_rfl) (by simp) ?_; refine (AllReadyH.cons rfl (fun K hK => ?_) AllReadyH.nil); go_simp
            refine hK.out _ _ (HS.out _ (K5.out.trans ((Kept.refl (fun b : Nat => w.heap.size ≤ b) _).setCell (p := ⟨w.heap.size, 3, none⟩) (Nat.le_refl _) _))) (fun _ => ?_); clear hK K; (try go_simp)
            refine wpAnyH_done (by kernel_rfl) ?_ _
            clear d3 dc dq dqa e2 e2a g5 y5
            go_wp2
            obtain ⟨z1, z2⟩ := HDq.out.fk HY.out HBW.out K2.out (x := x) (by rw [HXl.out]; exact O2.out) HG5.out (by rw [HAl.out]; exact HO5.out) HT5.out
            have z3 := HKw.out.trans' (K5.out.trans ((Kept.refl (fun b : Nat => w.heap.size ≤ b) _).setCell (p := ⟨w.heap.size, 3, none⟩) (Nat.le_refl _) (.slice a5 (k + 1) c5))) (fun i hi hb => by omega)
            exact ⟨⟨k + 1, .slice a5 (k + 1) c5, vs ++ [.slice a2 xl c2], by go_num, by have := HLt.out; omega, by rw [← HAt.out] at z1; exact z1, z2, z3⟩, by simp [intOf]; have := HLt.out; omega⟩
    · have hkM : k = M := by omega
      subst hkM
      have q1 : ¬ (k : Int) < (k : Int) := by omega
      obtain ⟨qa, qc, hqf⟩ := own_form hD.row
      have d3 : wr.cell? ⟨g, 3, none⟩ = some (.slice ra k rcap) := hK.cell (fun h => h) c3
      clear hD hY hK hqf
      go_wp2
      go_returns
      have hT : d.rooms.take k = d.rooms := List.take_of_length_le (by rw [HM.out]; exact Nat.le_refl _)
      have hD := HDq.out
      rw [hT] at hD
      exact ⟨rfl, qv, vs, hD, HY.out, HKw.out⟩
end Go.Proofs.YtljbmpnpbjnbkaaDoor
namespace Go.Proofs.YtljbmpnpbjnbkaaDoor
open Go.RowKit
set_option linter.unusedVariables false
set_option linter.unusedSimpArgs false
/-- The blocks of a pair. -/
def bl (gp gd : Nat) (rv : Value) (us : List Value) (w : World) : Nat → Prop := fun k => jS gp w k ∨ dS gd rv us k
/-- A pair behind a call, and what the call may have turned. -/
structure BO (B gp gd : Nat) (rv : Value) (us : List Value) (w : World) (s' : JSt) (d' : DSt) (rv2 : Value) (us2 : List Value) (w' : World) : Prop where
  x : JX B gp gd s' d' rv2 us2 w'
  k : Kept (bl gp gd rv us w) w w'
  f : ∀ i, i < w.heap.size → bl gp gd rv2 us2 w' i → bl gp gd rv us w i
theorem JX.bpstep {B gp gd : Nat} {s s' : JSt} {d : DSt} {rv : Value} {us : List Value} {w w' : World} (h : JX B gp gd s d rv us w) (h' : JW gp s' w') (t : Turns gp w w') : BO B gp gd rv us w s' d rv us w' := by
  refine ⟨(h.pstep h' t).1, t.kept.mono (fun i _ hi => .inl hi), fun i hi hb => ?_⟩
  rcases hb with (e | e) | e
  · exact .inl (.inl e)
  · exact .inl (t.row i hi e)
  · exact .inr e
theorem JX.bdstep {B gp gd : Nat} {s : JSt} {d d' : DSt} {rv rv' : Value} {us us' : List Value} {w w' : World} (h : JX B gp gd s d rv us w) (hd : DL gd d' w' rv' us') (hf : ∀ k, k < w.heap.size → dS gd rv' us' k → dS gd rv us k) (k : Kept (dS gd rv us) w w') : BO B gp gd rv us w s d' rv' us' w' := by
  have hn : ∀ i, jS gp w i → ¬ dS gd rv us i := fun i hi hd => (h.db i hd).2 hi
  have hj := h.p.jkept k (hn gp (.inl rfl))
  refine ⟨(h.dstep hd hf k).1, k.mono (fun i _ hi => .inr hi), fun i hi hb => ?_⟩
  rcases hb with e | e
  · exact .inl ((hj i).1 e)
  · exact .inr (hf i hi e)
/-- Two pairs. -/
structure J4 (B gp gd : Nat) (s : JSt) (d : DSt) (rv : Value) (us : List Value) (gq ge : Nat) (t : JSt) (e : DSt) (rw : Value) (vs : List Value) (w : World) : Prop where
  a : JX B gp gd s d rv us w
  b : JX B gq ge t e rw vs w
  n : ∀ k, bl gp gd rv us w k → ¬ bl gq ge rw vs w k
theorem J4.swap {B gp gd gq ge : Nat} {s t : JSt} {d e : DSt} {rv rw : Value} {us vs : List Value} {w : World} (h : J4 B gp gd s d rv us gq ge t e rw vs w) : J4 B gq ge t e rw vs gp gd s d rv us w :=
  ⟨h.b, h.a, fun k h1 h2 => h.n k h2 h1⟩
theorem J4.step {B gp gd gq ge : Nat} {s s' t : JSt} {d d' e : DSt} {rv rv2 rw : Value} {us us2 vs : List Value} {w w' : World} (h : J4 B gp gd s d rv us gq ge t e rw vs w) (o : BO B gp gd rv us w s' d' rv2 us2 w') : J4 B gp gd s' d' rv2 us2 gq ge t e rw vs w' ∧ Kept (fun k => B ≤ k) w w' := by
  have h1 : ∀ i, jS gq w i → ¬ bl gp gd rv us w i := fun i hi hb => h.n i hb (.inl hi)
  have h2 : ∀ i, dS ge rw vs i → ¬ bl gp gd rv us w i := fun i hi hb => h.n i hb (.inr hi)
  have hj := h.b.p.jkept o.k (h1 gq (.inl rfl))
  refine ⟨⟨o.x, h.b.kept o.k h1 h2, fun i hb hc => ?_⟩, o.k.mono (fun i _ hi => hi.elim (h.a.pb i) (fun e => (h.a.db i e).1))⟩
  rcases hc with hc | hc
  · have hc' := (hj i).1 hc
    exact h.n i (o.f i (h.b.p.jlt hc') hb) (.inl hc')
  · exact h.n i (o.f i (h.b.d.lt hc) hb) (.inr hc)
theorem J4.same {B gp gd gq ge : Nat} {s t : JSt} {d e : DSt} {rv rw : Value} {us vs : List Value} {w w' : World} (h : J4 B gp gd s d rv us gq ge t e rw vs w) (k : Same w w') : J4 B gp gd s d rv us gq ge t e rw vs w' := by
  have ha := h.a.p.jkept k (fun h => h)
  have hb := h.b.p.jkept k (fun h => h)
  refine ⟨h.a.same k, h.b.same k, fun i h1 h2 => h.n i (h1.imp (ha i).1 id) (h2.imp (hb i).1 id)⟩
/-- Behind both Forks. -/
theorem JX.both {B gp gq gd : Nat} {s t : JSt} {d e : DSt} {rv rw : Value} {us vs : List Value} {w w' : World} (h : JT2 B gp gq gd s t d rv us w) {ge : Nat} (he : DL ge e w' rw vs) (hy : ∀ k, dS ge rw vs k → w.heap.size ≤ k) (k : Same w w') :
    J4 B gp gd s d rv us gq ge t e rw vs w' := by
  have hl := h.a.low
  have ha := h.a.p.jkept k (fun h => h)
  have hb := h.b.p.jkept k (fun h => h)
  refine ⟨h.a.same k, ⟨h.b.p.same k, fun i hi => h.b.pb i ((hb i).1 hi), he, fun i hi => ⟨Nat.le_trans hl (hy i hi), fun e => by have := h.b.p.jlt ((hb i).1 e); have := hy i hi; omega⟩⟩, fun i h1 h2 => ?_⟩
  rcases h1 with h1 | h1
  · have g1 := (ha i).1 h1
    rcases h2 with h2 | h2
    · exact h.n i g1 ((hb i).1 h2)
    · have := h.a.p.jlt g1
      have := hy i h2
      omega
  · rcases h2 with h2 | h2
    · exact (h.b.db i h1).2 ((hb i).1 h2)
    · have := h.a.d.lt h1
      have := hy i h2
      omega
/-! ### Calls on one side -/
theorem J4.pa {B gp gd gq ge : Nat} {s t : JSt} {d e : DSt} {rv rw : Value} {us vs : List Value} {w : World} (h : J4 B gp gd s d rv us gq ge t e rw vs w) (rec : ByteArray) (hl : rec.size ≤ 140737488351232) :
    Calls Tryd.prog 11 #[.pointer (some ⟨gp, 0, none⟩), .string rec] w fun r w' => r = .returned (.int .i64 (s.appErr rec.size)) ∧ J4 B gp gd (s.app rec.data.toList) d rv us gq ge t e rw vs w' ∧ Kept (fun k => B ≤ k) w w' := by
  refine (h.a.pa rec hl).mono ?_
  rintro r w' ⟨rfl, j, k⟩
  exact ⟨rfl, h.step (h.a.bpstep j k)⟩
theorem J4.da {B gp gd gq ge : Nat} {s s0 t : JSt} {d e : DSt} {rv rw : Value} {us vs : List Value} {w : World} (h : J4 B gp gd s d rv us gq ge t e rw vs w) (ag : Ag d s0) (rec : ByteArray) (hl : rec.size ≤ 140737488351232) :
    Calls Tryd.prog 12 #[.pointer (some ⟨gd, 0, none⟩), .string rec] w fun r w' => r = .returned (.int .i64 (s0.appErr rec.size)) ∧ ∃ rv' us', J4 B gp gd s (d.appJ s0 rec) rv' us' gq ge t e rw vs w' ∧ Kept (fun k => B ≤ k) w w' := by
  unfold DSt.appJ
  by_cases he : s0.appErr rec.size = 0
  · rw [if_pos he, he]
    refine (appendD_yes h.a.d ag rec he).mono ?_
    rintro r w' ⟨rfl, ⟨rv', us', h1, h2⟩, k⟩
    exact ⟨rfl, rv', us', h.step (h.a.bdstep h1 h2 k)⟩
  · rw [if_neg he]
    refine (appendD_no h.a.d.dw ag rec hl he).mono ?_
    rintro r w' ⟨rfl, k⟩
    exact ⟨rfl, rv, us, h.same k, k.mono (fun _ _ h => h.elim)⟩
theorem J4.pt {B gp gd gq ge : Nat} {s t : JSt} {d e : DSt} {rv rw : Value} {us vs : List Value} {w : World} (h : J4 B gp gd s d rv us gq ge t e rw vs w) (hT : Tab w) :
    Calls Tryd.prog 15 #[.pointer (some ⟨gp, 0, none⟩)] w fun r w' => ∃ v, r = .returned v ∧ (Secs w' v s.taken (s.secs s.many) w.heap.size ∧ gd < w.heap.size ∧ ge < w.heap.size) ∧ J4 B gp gd s.take d rv us gq ge t e rw vs w' ∧ Kept (fun k => B ≤ k) w w' := by
  refine (j_take h.a.p hT).mono ?_
  rintro r w' ⟨v, rfl, h1, j, k⟩
  exact ⟨v, rfl, ⟨h1, h.a.d.lt (.inl rfl), h.b.d.lt (.inl rfl)⟩, h.step (h.a.bpstep j k)⟩
theorem J4.dt {B gp gd gq ge : Nat} {s s0 t : JSt} {d e : DSt} {rv rw : Value} {us vs : List Value} {w : World} (h : J4 B gp gd s d rv us gq ge t e rw vs w) (ag : Ag d s0) :
    Calls Tryd.prog 16 #[.pointer (some ⟨gd, 0, none⟩)] w fun r w' => ∃ v, r = .returned v ∧ DSecs w' v s0.taken (s0.secs s0.many) ∧ J4 B gp gd s d.take rv us gq ge t e rw vs w' ∧ Kept (fun k => B ≤ k) w w' ∧ Kept (fun k => k = gd) w w' := by
  refine (h.a.dt ag).mono ?_
  rintro r w' ⟨v, rfl, h1, x, k⟩
  have hn : ¬ (gp = gd) := fun e => (h.a.db gd (.inl rfl)).2 (.inl e.symm)
  have hj := h.a.p.jkept k hn
  obtain ⟨z1, z2⟩ := h.step (s' := s) (d' := d.take) (rv2 := rv) (us2 := us) ⟨x, k.mono (fun i _ e => .inr (.inl e)), fun i hi hb => hb.imp (hj i).1 id⟩
  exact ⟨v, rfl, h1, z1, z2, k⟩
end Go.Proofs.YtljbmpnpbjnbkaaDoor
