/- pack: PackForks walked: two pairs, apart. -/
import Derived.Test.YtafdkfieajdeiaaDoorK9
import Derived.Test.YtafdkfieajdeiaaDoorPT6
import Derived.Test.YtafdkfieajdeiaaDoorBeP
import Derived.Test.YtafdkfieajdeiaaDoorCTab
import Derived.Test.YtafdkfieajdeiaaDoorK10
import Derived.OpenShut
import Derived.Deep.Slices
import Derived.Test.YtafdkfieajdeiaaDoorPD10
import Derived.Test.YtafdkfieajdeiaaDoorPT3
import Derived.Test.YtafdkfieajdeiaaDoorQuietS
import Derived.Test.YtafdkfieajdeiaaDoorPS7
/- pack: PackPlays walked. -/
/- pack: the law's step of both, whatever the step. -/
/- pack: the law's step of both: Append. -/
/- pack: the law's step of both: Read. -/
/- pack: Read of a slot, what it tells in a row of its own. -/
namespace Go.Proofs.YtafdkfieajdeiaaDoor
open Go.RowKit
set_option linter.unusedVariables false
set_option maxHeartbeats 4000000 in
set_option maxRecDepth 100000 in
theorem p_readO {g : Nat} {s : PSt} {w : World} (h : PW g s w) (o n : Int) :
    Calls Tryd.prog 30 #[.pointer (some ⟨g, 0, none⟩), .agg #[.int .i64 o, .int .i64 n]] w fun e w' => ∃ u, e = .returned (.tuple #[u, .int .i64 (if (s.read o n).isSome then 0 else 130)]) ∧ w'.ownsRow w.heap.size 5 1 u ((s.read o n).getD []).length (((s.read o n).getD []).map U8) ∧ Same w w' := by
  have hmany := h.ok.many
  have hbl : s.bs.length ≤ 262144 := by have := h.ok.room; have := h.ok.b1; omega
  have A := hidden (fun W (k : Same w W) => p_made (h.same k))
  have hsl : s.slots.length = s.chunks.length := slotsFrom_len _ _
  have HBS : Hid (∀ W, Same w W → ∀ vs, OwnM W 34 2 vs s.slots.length (slotCells s.slots) → Calls Tryd.prog 60 #[vs, .agg #[.int .i64 o, .int .i64 n], .func (.func 61) #[] #[]] W fun e w' => ∃ i : Nat, e = .returned (.tuple #[.int .i64 i, .bool (s.slots.any fun x => decide ((x.1 : Int) = o))]) ∧ (∀ x ∈ s.slots, (x.1 : Int) = o → s.slots[i]? = some x) ∧ Same W w') := hidden (fun W k vs hv => bsf_any o n hv (rise_from s.chunks 16).1 (by omega))
  obtain ⟨⟨vb, vs, hB, hO, hS⟩, hok, hnt⟩ := h
  have HB := hidden hB
  have HO := hidden hO
  have HS := hidden hS
  have hmx : Tryd.prog.follows .mixedOrders = true := by kernel_rfl
  obtain ⟨va, vc, rfl, hvc⟩ := hS.form
  have c3 : ∀ q, (w.alloc q).cell? ⟨g, 3, none⟩ = some (.slice va s.slots.length vc) := fun q => blk_cell (blk_alloc hB q)
  clear hB hO hS hok hnt
  by_cases hany : (s.slots.any fun x => decide ((x.1 : Int) = o)) = true
  · obtain ⟨x, hxm, hxo⟩ := List.any_eq_true.1 hany
    obtain ⟨a, cn⟩ := x
    simp only [decide_eq_true_eq] at hxo
    subst hxo
    rw [hany] at HBS
    obtain ⟨i, hil, hi⟩ : ∃ i, i < s.slots.length ∧ s.slots[i]? = some (a, cn) := by
      obtain ⟨i, hi, e⟩ := List.getElem_of_mem hxm
      exact ⟨i, hi, by rw [List.getElem?_eq_getElem hi, e]⟩
    have HBS2 : Hid (∀ W, Same w W → Calls Tryd.prog 60 #[.slice va s.slots.length vc, .agg #[.int .i64 (a : Int), .int .i64 n], .func (.func 61) #[] #[]] W fun e w' => e = .returned (.tuple #[.int .i64 i, .bool true]) ∧ Same W w') := hidden (fun W k => (HBS.out W k _ (HS.out.same k)).mono fun e w' ⟨i', h1, h2, h3⟩ => by
      have e : i' = i := rise_inj (rise_from s.chunks 16).1 (h2 _ hxm rfl) hi rfl
      subst e
      exact ⟨h1, h3⟩)
    clear HBS hany hxm
    have GO : ∃ c, s.chunks[i]? = some c ∧ c.length = cn ∧ a + cn ≤ s.bs.length ∧ (s.bs.drop a).take cn = c := by
      have hlt : i < s.chunks.length := by rw [← hsl]; exact hil
      obtain ⟨o', q1, q2, q3, q4⟩ := slot_at s.chunks (headB s.id s.sectors) i hlt
      rw [headB_len] at q1 q3
      rw [show slotsFrom 16 s.chunks = s.slots from rfl, hi] at q1
      simp only [Option.some.injEq, Prod.mk.injEq] at q1
      obtain ⟨rfl, rfl⟩ := q1
      exact ⟨_, List.getElem?_eq_getElem hlt, rfl, by rw [s.bs_len]; exact q3, q2⟩
    obtain ⟨c, hc1, hc2, hc3, hc4⟩ := GO
    have hcs : ∀ W, Same w W → ∃ b, va = some ⟨b, 0, none⟩ ∧ W.cell? ⟨b, i * 2, none⟩ = some (.int .i64 (a : Int)) ∧ W.cell? ⟨b, i * 2 + 1, none⟩ = some (.int .i64 (cn : Int)) := fun W kk => by
      have h2 := HS.out.same kk
      rcases h2.ex with ⟨_, e⟩ | ⟨b, cp, cur, fz, e, _⟩
      · omega
      · simp only [Value.slice.injEq] at e
        obtain ⟨rfl, _, rfl⟩ := e
        obtain ⟨q1, q2⟩ := slot_cell hil
        rw [show s.slots[i] = (a, cn) from Option.some.inj ((List.getElem?_eq_getElem hil).symm.trans hi)] at q1 q2
        exact ⟨b, rfl, h2.cells (g := b) rfl _ _ q1, h2.cells (g := b) rfl _ _ q2⟩
    have HCS := hidden hcs
    have D3 : Hid (∀ W, Same w W → W.cell? ⟨g, 3, none⟩ = some (.slice va s.slots.length vc)) := fun W kk => blk_cell (blk_kept kk (fun h => h) HB.out)
    have hread : s.read (a : Int) n = if (cn : Int) = n then some c else none := PSt.read_at hi hc1 rfl
    rw [hread]
    clear hread hcs hc1 hi HS hsl
    generalize hSL : s.slots.length = SN at *
    have q1 : (0 : Int) ≤ (i : Int) := Int.natCast_nonneg _
    have q2 : (i : Int) < (SN : Int) := by omega
    clear hSL
    by_cases hn : (cn : Int) = n
    · subst hn
      rw [if_pos rfl]
      obtain ⟨ba, bc, rfl, hbc⟩ := HO.out.form
      have HBt := Bt.ownM HO.out
      obtain ⟨p2, hs2, hb2⟩ := HBt.sub (i := a) (j := a + cn) (by omega) (by omega) (a : Int) ((a : Int) + cn) rfl (by omega)
      rw [show a + cn - a = cn by omega, take_drop_sub s.bs a (a + cn) (by omega), show a + cn - a = cn by omega, hc4] at hb2
      rw [show a + cn - a = cn by omega] at hs2
      have HCl : Hid (∀ W, Same w W → Calls Tryd.prog 39 #[.slice p2 cn (bc - a)] W fun e w' => ∃ u, e = .returned u ∧ w'.ownsRow W.heap.size 5 1 u c.length (c.map U8) ∧ Same W w') := hidden (fun W k => cloneB _ c W (hb2 W k) (by omega))
      have D2 : Hid (∀ W, Same w W → W.cell? ⟨g, 2, none⟩ = some (.slice ba s.bs.length bc)) := fun W kk => blk_cell (blk_kept kk (fun h => h) HB.out)
      generalize hBL : s.bs.length = BN at *
      have hww : IntKind.i64.wrap ((a : Int) + (cn : Int)) = (a : Int) + (cn : Int) := by rw [IntKind.wrap_i64]; omega
      clear hb2 HBt hc2 hc4 hBL HO HB
      go_enter Tryd.func30, Tryd.ntmps30
      go_wp2_with (go_at_call 38; refine (A.out _ (same_alloc _ _)).mono ?_; rintro e w0 ⟨rfl, rfl⟩)
      go_region_law (refine step_call rfl 60 #[.slice va SN vc, .agg #[.int .i64 (a : Int), .int .i64 (cn : Int)], .func (.func 61) #[] #[]] (fun u W => u = .tuple #[.int .i64 i, .bool true] ∧ Same (w.alloc (.cells #[.int .i64 (a : Int), .int .i64 (cn : Int)] 34)) W) (by go_simp; try rfl) ((HBS2.out _ ((same_alloc _ _).drew)).mono (fun e w' ⟨h1, h3⟩ => ⟨_, h1, rfl, ⟨h3.os, h3.tape, h3.output, h3.size, h3.block⟩⟩)) ?_; rintro u w1 ⟨rfl, k1⟩)
      all_goals
        have K1 := hidden (Kept.trans (same_alloc w _) k1)
        have bx := blk_kept k1 (fun h => h) (blk_new w _)
        have x0 : w1.cell? ⟨w.heap.size, 0, none⟩ = some (.int .i64 (a : Int)) := blk_cell bx
        have x1 : w1.cell? ⟨w.heap.size, 1, none⟩ = some (.int .i64 (cn : Int)) := blk_cell bx
        have d3 := D3.out w1 K1.out
        have d2 := D2.out w1 K1.out
        obtain ⟨b, rfl, y0, y1⟩ := HCS.out w1 K1.out
        clear k1 bx HBS2 c3
        go_wp2
        refine wp_region_any hmx ?_
        change wpAny Tryd.prog _ _ _ _ _ _ w1.drew
        refine wpAny_take (i := 0) (v := (.bool true)) rfl (by kernel_rfl) (by kernel_rfl) (by kernel_rfl) (fun _ _ _ h => h) (Or.inl ⟨by rfl, (by intro w; go_simp; try rfl)⟩) ?_; (try go_simp)
        refine wpAny_take (i := 1) (v := (.bool false)) rfl (by kernel_rfl) (by kernel_rfl) (by kernel_rfl) (fun _ _ _ h => h) (Or.inl ⟨by rfl, (by intro w; go_simp; try rfl)⟩) ?_; (try go_simp)
        refine wpAny_take (i := 2) (v := (.bool false)) rfl (by kernel_rfl) (by kernel_rfl) (by kernel_rfl) (fun _ _ _ h => h) (Or.inl ⟨by rfl, (by intro w; go_simp; try rfl)⟩) ?_; (try go_simp)
        refine wpAny_take (i := 3) (v := (.pointer (some ⟨g, 0, none⟩))) rfl (by kernel_rfl) (by kernel_rfl) (by kernel_rfl) (fun _ _ _ h => h) (Or.inl ⟨by rfl, (by intro w; go_simp; try rfl)⟩) ?_; (try go_simp)
        refine wpAny_take (i := 4) (v := (.pointer (some ⟨g, 0, none⟩))) rfl (by kernel_rfl) (by kernel_rfl) (by kernel_rfl) (fun _ _ _ h => h) (Or.inl ⟨by rfl, (by intro w; go_simp; try rfl)⟩) ?_; (try go_simp)
        refine wpAny_take (i := 5) (v := (.pointer (some ⟨g, 3, none⟩))) rfl (by kernel_rfl) (by kernel_rfl) (by kernel_rfl) (fun _ _ _ h => h) (Or.inl ⟨by rfl, (by intro w; go_simp; try rfl)⟩) ?_; (try go_simp)
        refine wpAny_take (i := 7) (v := (.int .i64 (i : Int))) rfl (by kernel_rfl) (by kernel_rfl) (by kernel_rfl) (fun _ _ _ h => h) (Or.inl ⟨by rfl, (by intro w; go_simp; try rfl)⟩) ?_; (try go_simp)
        refine wpAny_ready (rs := [6, 10]) (by kernel_rfl) (by simp) ?_; refine (AllReady.cons rfl (fun K hK => ?_) (AllReady.cons rfl (fun K hK => ?_) AllReady.nil))
        · go_simp; refine hK _ _ ?_; clear hK K; (try go_simp)
          refine wpAny_take (i := 8) (v := (.pointer (some ⟨b, i * 2, none⟩))) rfl (by kernel_rfl) (by kernel_rfl) (by kernel_rfl) (fun _ _ _ h => h) (Or.inl ⟨by rfl, (by intro w; go_simp; try rfl)⟩) ?_; (try go_simp)
          refine wpAny_ready (rs := [9, 10]) (by kernel_rfl) (by simp) ?_; refine (AllReady.cons rfl (fun K hK => ?_) (AllReady.cons rfl (fun K hK => ?_) AllReady.nil))
          · go_simp; refine hK _ _ ?_; clear hK K; (try go_simp)
            refine wpAny_ready (rs := [10]) (by kernel_rfl) (by simp) ?_; refine (AllReady.cons rfl (fun K hK => ?_) AllReady.nil)
            go_simp; refine hK _ _ ?_; clear hK K; (try go_simp)
            refine wpAny_take (i := 11) (v := (.bool false)) rfl (by kernel_rfl) (by kernel_rfl) (by kernel_rfl) (fun _ _ _ h => h) (Or.inl ⟨by rfl, (by intro w; go_simp; try rfl)⟩) ?_; (try go_simp)
            refine wpAny_take (i := 12) (v := (.bool false)) rfl (by kernel_rfl) (by kernel_rfl) (by kernel_rfl) (fun _ _ _ h => h) (Or.inl ⟨by rfl, (by intro w; go_simp; try rfl)⟩) ?_; (try go_simp)
            refine wpAny_done (by kernel_rfl) ?_ _
            go_wp2
            go_region_held3 (fun w' => w'.cell? ⟨g, 2, none⟩ = some (.slice ba BN bc) ∧ w'.cell? ⟨w.heap.size, 0, none⟩ = some (.int .i64 (a : Int)) ∧ w'.cell? ⟨w.heap.size, 1, none⟩ = some (.int .i64 (cn : Int)))
              (first | go_keep | (go_split_ands; exact ⟨by assumption, by assumption, by assumption⟩))
              ((go_at_call 39; go_must (refine (HCl.out _ K1.out.drew.drew).mono ?_; rintro e w2 ⟨u, rfl, ho2, k2⟩; have K2 := hidden (Kept.trans K1.out.drew.drew k2); have HO2 := hidden ho2; have y2 : w2.cell? ⟨g, 2, none⟩ = some (.slice ba BN bc) := Kept.cell k2 (fun h => h) (by simpa using d2); have y0' : w2.cell? ⟨w.heap.size, 0, none⟩ = some (.int .i64 (a : Int)) := Kept.cell k2 (fun h => h) (by simpa using x0); have y1' : w2.cell? ⟨w.heap.size, 1, none⟩ = some (.int .i64 (cn : Int)) := Kept.cell k2 (fun h => h) (by simpa using x1); clear k2 ho2)))
            go_wp2
            go_returns
            exact ⟨u, rfl, own_mono HO2.out K1.out.size, K2.out⟩
          · go_simp; refine hK _ _ ?_; clear hK K; (try go_simp)
            refine wpAny_ready (rs := [9]) (by kernel_rfl) (by simp) ?_; refine (AllReady.cons rfl (fun K hK => ?_) AllReady.nil)
            go_simp; refine hK _ _ ?_; clear hK K; (try go_simp)
            refine wpAny_take (i := 11) (v := (.bool false)) rfl (by kernel_rfl) (by kernel_rfl) (by kernel_rfl) (fun _ _ _ h => h) (Or.inl ⟨by rfl, (by intro w; go_simp; try rfl)⟩) ?_; (try go_simp)
            refine wpAny_take (i := 12) (v := (.bool false)) rfl (by kernel_rfl) (by kernel_rfl) (by kernel_rfl) (fun _ _ _ h => h) (Or.inl ⟨by rfl, (by intro w; go_simp; try rfl)⟩) ?_; (try go_simp)
            refine wpAny_done (by kernel_rfl) ?_ _
            go_wp2
            go_region_held3 (fun w' => w'.cell? ⟨g, 2, none⟩ = some (.slice ba BN bc) ∧ w'.cell? ⟨w.heap.size, 0, none⟩ = some (.int .i64 (a : Int)) ∧ w'.cell? ⟨w.heap.size, 1, none⟩ = some (.int .i64 (cn : Int)))
              (first | go_keep | (go_split_ands; exact ⟨by assumption, by assumption, by assumption⟩))
              ((go_at_call 39; go_must (refine (HCl.out _ K1.out.drew.drew).mono ?_; rintro e w2 ⟨u, rfl, ho2, k2⟩; have K2 := hidden (Kept.trans K1.out.drew.drew k2); have HO2 := hidden ho2; have y2 : w2.cell? ⟨g, 2, none⟩ = some (.slice ba BN bc) := Kept.cell k2 (fun h => h) (by simpa using d2); have y0' : w2.cell? ⟨w.heap.size, 0, none⟩ = some (.int .i64 (a : Int)) := Kept.cell k2 (fun h => h) (by simpa using x0); have y1' : w2.cell? ⟨w.heap.size, 1, none⟩ = some (.int .i64 (cn : Int)) := Kept.cell k2 (fun h => h) (by simpa using x1); clear k2 ho2)))
            go_wp2
            go_returns
            exact ⟨u, rfl, own_mono HO2.out K1.out.size, K2.out⟩
        · go_simp; refine hK _ _ ?_; clear hK K; (try go_simp)
          refine wpAny_ready (rs := [6]) (by kernel_rfl) (by simp) ?_; refine (AllReady.cons rfl (fun K hK => ?_) AllReady.nil)
          go_simp; refine hK _ _ ?_; clear hK K; (try go_simp)
          refine wpAny_take (i := 8) (v := (.pointer (some ⟨b, i * 2, none⟩))) rfl (by kernel_rfl) (by kernel_rfl) (by kernel_rfl) (fun _ _ _ h => h) (Or.inl ⟨by rfl, (by intro w; go_simp; try rfl)⟩) ?_; (try go_simp)
          refine wpAny_ready (rs := [9]) (by kernel_rfl) (by simp) ?_; refine (AllReady.cons rfl (fun K hK => ?_) AllReady.nil)
          go_simp; refine hK _ _ ?_; clear hK K; (try go_simp)
          refine wpAny_take (i := 11) (v := (.bool false)) rfl (by kernel_rfl) (by kernel_rfl) (by kernel_rfl) (fun _ _ _ h => h) (Or.inl ⟨by rfl, (by intro w; go_simp; try rfl)⟩) ?_; (try go_simp)
          refine wpAny_take (i := 12) (v := (.bool false)) rfl (by kernel_rfl) (by kernel_rfl) (by kernel_rfl) (fun _ _ _ h => h) (Or.inl ⟨by rfl, (by intro w; go_simp; try rfl)⟩) ?_; (try go_simp)
          refine wpAny_done (by kernel_rfl) ?_ _
          go_wp2
          go_region_held3 (fun w' => w'.cell? ⟨g, 2, none⟩ = some (.slice ba BN bc) ∧ w'.cell? ⟨w.heap.size, 0, none⟩ = some (.int .i64 (a : Int)) ∧ w'.cell? ⟨w.heap.size, 1, none⟩ = some (.int .i64 (cn : Int)))
            (first | go_keep | (go_split_ands; exact ⟨by assumption, by assumption, by assumption⟩))
            ((go_at_call 39; go_must (refine (HCl.out _ K1.out.drew.drew).mono ?_; rintro e w2 ⟨u, rfl, ho2, k2⟩; have K2 := hidden (Kept.trans K1.out.drew.drew k2); have HO2 := hidden ho2; have y2 : w2.cell? ⟨g, 2, none⟩ = some (.slice ba BN bc) := Kept.cell k2 (fun h => h) (by simpa using d2); have y0' : w2.cell? ⟨w.heap.size, 0, none⟩ = some (.int .i64 (a : Int)) := Kept.cell k2 (fun h => h) (by simpa using x0); have y1' : w2.cell? ⟨w.heap.size, 1, none⟩ = some (.int .i64 (cn : Int)) := Kept.cell k2 (fun h => h) (by simpa using x1); clear k2 ho2)))
          go_wp2
          go_returns
          exact ⟨u, rfl, own_mono HO2.out K1.out.size, K2.out⟩
    · rw [if_neg hn]
      clear hc2 hc4 HO HB
      go_enter Tryd.func30, Tryd.ntmps30
      go_wp2_with (go_at_call 38; refine (A.out _ (same_alloc _ _)).mono ?_; rintro e w0 ⟨rfl, rfl⟩)
      go_region_law (refine step_call rfl 60 #[.slice va SN vc, .agg #[.int .i64 (a : Int), .int .i64 n], .func (.func 61) #[] #[]] (fun u W => u = .tuple #[.int .i64 i, .bool true] ∧ Same (w.alloc (.cells #[.int .i64 (a : Int), .int .i64 n] 34)) W) (by go_simp; try rfl) ((HBS2.out _ ((same_alloc _ _).drew)).mono (fun e w' ⟨h1, h3⟩ => ⟨_, h1, rfl, ⟨h3.os, h3.tape, h3.output, h3.size, h3.block⟩⟩)) ?_; rintro u w1 ⟨rfl, k1⟩)
      all_goals
        have K1 := hidden (Kept.trans (same_alloc w _) k1)
        have bx := blk_kept k1 (fun h => h) (blk_new w _)
        have x0 : w1.cell? ⟨w.heap.size, 0, none⟩ = some (.int .i64 (a : Int)) := blk_cell bx
        have x1 : w1.cell? ⟨w.heap.size, 1, none⟩ = some (.int .i64 n) := blk_cell bx
        have d3 := D3.out w1 K1.out
        obtain ⟨b, rfl, y0, y1⟩ := HCS.out w1 K1.out
        clear k1 bx HBS2 c3
        go_wp2
        refine wp_region_any hmx ?_
        change wpAny Tryd.prog _ _ _ _ _ _ w1.drew
        refine wpAny_take (i := 0) (v := (.bool true)) rfl (by kernel_rfl) (by kernel_rfl) (by kernel_rfl) (fun _ _ _ h => h) (Or.inl ⟨by rfl, (by intro w; go_simp; try rfl)⟩) ?_; (try go_simp)
        refine wpAny_take (i := 1) (v := (.bool false)) rfl (by kernel_rfl) (by kernel_rfl) (by kernel_rfl) (fun _ _ _ h => h) (Or.inl ⟨by rfl, (by intro w; go_simp; try rfl)⟩) ?_; (try go_simp)
        refine wpAny_take (i := 2) (v := (.bool false)) rfl (by kernel_rfl) (by kernel_rfl) (by kernel_rfl) (fun _ _ _ h => h) (Or.inl ⟨by rfl, (by intro w; go_simp; try rfl)⟩) ?_; (try go_simp)
        refine wpAny_take (i := 3) (v := (.pointer (some ⟨g, 0, none⟩))) rfl (by kernel_rfl) (by kernel_rfl) (by kernel_rfl) (fun _ _ _ h => h) (Or.inl ⟨by rfl, (by intro w; go_simp; try rfl)⟩) ?_; (try go_simp)
        refine wpAny_take (i := 4) (v := (.pointer (some ⟨g, 0, none⟩))) rfl (by kernel_rfl) (by kernel_rfl) (by kernel_rfl) (fun _ _ _ h => h) (Or.inl ⟨by rfl, (by intro w; go_simp; try rfl)⟩) ?_; (try go_simp)
        refine wpAny_take (i := 5) (v := (.pointer (some ⟨g, 3, none⟩))) rfl (by kernel_rfl) (by kernel_rfl) (by kernel_rfl) (fun _ _ _ h => h) (Or.inl ⟨by rfl, (by intro w; go_simp; try rfl)⟩) ?_; (try go_simp)
        refine wpAny_take (i := 7) (v := (.int .i64 (i : Int))) rfl (by kernel_rfl) (by kernel_rfl) (by kernel_rfl) (fun _ _ _ h => h) (Or.inl ⟨by rfl, (by intro w; go_simp; try rfl)⟩) ?_; (try go_simp)
        refine wpAny_ready (rs := [6, 10]) (by kernel_rfl) (by simp) ?_; refine (AllReady.cons rfl (fun K hK => ?_) (AllReady.cons rfl (fun K hK => ?_) AllReady.nil))
        · go_simp; refine hK _ _ ?_; clear hK K; (try go_simp)
          refine wpAny_take (i := 8) (v := (.pointer (some ⟨b, i * 2, none⟩))) rfl (by kernel_rfl) (by kernel_rfl) (by kernel_rfl) (fun _ _ _ h => h) (Or.inl ⟨by rfl, (by intro w; go_simp; try rfl)⟩) ?_; (try go_simp)
          refine wpAny_ready (rs := [9, 10]) (by kernel_rfl) (by simp) ?_; refine (AllReady.cons rfl (fun K hK => ?_) (AllReady.cons rfl (fun K hK => ?_) AllReady.nil))
          · go_simp; refine hK _ _ ?_; clear hK K; (try go_simp)
            refine wpAny_ready (rs := [10]) (by kernel_rfl) (by simp) ?_; refine (AllReady.cons rfl (fun K hK => ?_) AllReady.nil)
            go_simp; refine hK _ _ ?_; clear hK K; (try go_simp)
            refine wpAny_take (i := 11) (v := (.bool true)) rfl (by kernel_rfl) (by kernel_rfl) (by kernel_rfl) (fun _ _ _ h => h) (Or.inl ⟨by rfl, (by intro w; go_simp; try rfl)⟩) ?_; (try go_simp)
            refine wpAny_take (i := 12) (v := (.bool true)) rfl (by kernel_rfl) (by kernel_rfl) (by kernel_rfl) (fun _ _ _ h => h) (Or.inl ⟨by rfl, (by intro w; go_simp; try rfl)⟩) ?_; (try go_simp)
            refine wpAny_done (by kernel_rfl) ?_ _
            go_wp2
            go_returns
            exact ⟨_, rfl, World.ownsRow_nil _ _ _ _, K1.out.drew⟩
          · go_simp; refine hK _ _ ?_; clear hK K; (try go_simp)
            refine wpAny_ready (rs := [9]) (by kernel_rfl) (by simp) ?_; refine (AllReady.cons rfl (fun K hK => ?_) AllReady.nil)
            go_simp; refine hK _ _ ?_; clear hK K; (try go_simp)
            refine wpAny_take (i := 11) (v := (.bool true)) rfl (by kernel_rfl) (by kernel_rfl) (by kernel_rfl) (fun _ _ _ h => h) (Or.inl ⟨by rfl, (by intro w; go_simp; try rfl)⟩) ?_; (try go_simp)
            refine wpAny_take (i := 12) (v := (.bool true)) rfl (by kernel_rfl) (by kernel_rfl) (by kernel_rfl) (fun _ _ _ h => h) (Or.inl ⟨by rfl, (by intro w; go_simp; try rfl)⟩) ?_; (try go_simp)
            refine wpAny_done (by kernel_rfl) ?_ _
            go_wp2
            go_returns
            exact ⟨_, rfl, World.ownsRow_nil _ _ _ _, K1.out.drew⟩
        · go_simp; refine hK _ _ ?_; clear hK K; (try go_simp)
          refine wpAny_ready (rs := [6]) (by kernel_rfl) (by simp) ?_; refine (AllReady.cons rfl (fun K hK => ?_) AllReady.nil)
          go_simp; refine hK _ _ ?_; clear hK K; (try go_simp)
          refine wpAny_take (i := 8) (v := (.pointer (some ⟨b, i * 2, none⟩))) rfl (by kernel_rfl) (by kernel_rfl) (by kernel_rfl) (fun _ _ _ h => h) (Or.inl ⟨by rfl, (by intro w; go_simp; try rfl)⟩) ?_; (try go_simp)
          refine wpAny_ready (rs := [9]) (by kernel_rfl) (by simp) ?_; refine (AllReady.cons rfl (fun K hK => ?_) AllReady.nil)
          go_simp; refine hK _ _ ?_; clear hK K; (try go_simp)
          refine wpAny_take (i := 11) (v := (.bool true)) rfl (by kernel_rfl) (by kernel_rfl) (by kernel_rfl) (fun _ _ _ h => h) (Or.inl ⟨by rfl, (by intro w; go_simp; try rfl)⟩) ?_; (try go_simp)
          refine wpAny_take (i := 12) (v := (.bool true)) rfl (by kernel_rfl) (by kernel_rfl) (by kernel_rfl) (fun _ _ _ h => h) (Or.inl ⟨by rfl, (by intro w; go_simp; try rfl)⟩) ?_; (try go_simp)
          refine wpAny_done (by kernel_rfl) ?_ _
          go_wp2
          go_returns
          exact ⟨_, rfl, World.ownsRow_nil _ _ _ _, K1.out.drew⟩
  · have hf : (s.slots.any fun x => decide ((x.1 : Int) = o)) = false := by simpa using hany
    rw [hf] at HBS
    have HBS2 : Hid (∀ W, Same w W → Calls Tryd.prog 60 #[.slice va s.slots.length vc, .agg #[.int .i64 o, .int .i64 n], .func (.func 61) #[] #[]] W fun e w' => ∃ i : Nat, e = .returned (.tuple #[.int .i64 i, .bool false]) ∧ Same W w') := hidden (fun W k => (HBS.out W k _ (HS.out.same k)).mono fun e w' ⟨i, h1, h2, h3⟩ => ⟨i, h1, h3⟩)
    rw [PSt.read_none hf]
    clear HBS hany hf hsl
    go_enter Tryd.func30, Tryd.ntmps30
    go_wp2_with (go_at_call 38; refine (A.out _ (same_alloc _ _)).mono ?_; rintro e w0 ⟨rfl, rfl⟩)
    go_region_law (refine step_call rfl 60 #[.slice va s.slots.length vc, .agg #[.int .i64 o, .int .i64 n], .func (.func 61) #[] #[]] (fun u W => ∃ i : Nat, u = .tuple #[.int .i64 i, .bool false] ∧ Same (w.alloc (.cells #[.int .i64 o, .int .i64 n] 34)) W) (by go_simp; try rfl) ((HBS2.out _ ((same_alloc _ _).drew)).mono (fun e w' ⟨i, h1, h3⟩ => ⟨_, h1, i, rfl, ⟨h3.os, h3.tape, h3.output, h3.size, h3.block⟩⟩)) ?_; rintro u w1 ⟨i, rfl, k1⟩)
    all_goals
      have K1 := hidden (Kept.trans (same_alloc w _) k1)
      clear k1
      go_wp2
      refine wp_region_any hmx ?_
      change wpAny Tryd.prog _ _ _ _ _ _ w1.drew
      refine wpAny_take (i := 0) (v := (.bool false)) rfl (by kernel_rfl) (by kernel_rfl) (by kernel_rfl) (fun _ _ _ h => h) (Or.inl ⟨by rfl, (by intro w; go_simp; try rfl)⟩) ?_; (try go_simp)
      refine wpAny_take (i := 1) (v := (.bool true)) rfl (by kernel_rfl) (by kernel_rfl) (by kernel_rfl) (fun _ _ _ h => h) (Or.inl ⟨by rfl, (by intro w; go_simp; try rfl)⟩) ?_; (try go_simp)
      refine wpAny_take (i := 2) (v := (.bool true)) rfl (by kernel_rfl) (by kernel_rfl) (by kernel_rfl) (fun _ _ _ h => h) (Or.inl ⟨by rfl, (by intro w; go_simp; try rfl)⟩) ?_; (try go_simp)
      refine wpAny_take (i := 3) (v := undef) rfl (by kernel_rfl) (by kernel_rfl) (by kernel_rfl) (fun _ _ _ h => h) (Or.inr ⟨by rfl, rfl⟩) ?_; (try go_simp)
      refine wpAny_take (i := 4) (v := undef) rfl (by kernel_rfl) (by kernel_rfl) (by kernel_rfl) (fun _ _ _ h => h) (Or.inr ⟨by rfl, rfl⟩) ?_; (try go_simp)
      refine wpAny_take (i := 5) (v := undef) rfl (by kernel_rfl) (by kernel_rfl) (by kernel_rfl) (fun _ _ _ h => h) (Or.inr ⟨by rfl, rfl⟩) ?_; (try go_simp)
      refine wpAny_take (i := 6) (v := undef) rfl (by kernel_rfl) (by kernel_rfl) (by kernel_rfl) (fun _ _ _ h => h) (Or.inr ⟨by rfl, rfl⟩) ?_; (try go_simp)
      refine wpAny_take (i := 7) (v := undef) rfl (by kernel_rfl) (by kernel_rfl) (by kernel_rfl) (fun _ _ _ h => h) (Or.inr ⟨by rfl, rfl⟩) ?_; (try go_simp)
      refine wpAny_take (i := 8) (v := undef) rfl (by kernel_rfl) (by kernel_rfl) (by kernel_rfl) (fun _ _ _ h => h) (Or.inr ⟨by rfl, rfl⟩) ?_; (try go_simp)
      refine wpAny_take (i := 9) (v := undef) rfl (by kernel_rfl) (by kernel_rfl) (by kernel_rfl) (fun _ _ _ h => h) (Or.inr ⟨by rfl, rfl⟩) ?_; (try go_simp)
      refine wpAny_take (i := 10) (v := undef) rfl (by kernel_rfl) (by kernel_rfl) (by kernel_rfl) (fun _ _ _ h => h) (Or.inr ⟨by rfl, rfl⟩) ?_; (try go_simp)
      refine wpAny_take (i := 11) (v := undef) rfl (by kernel_rfl) (by kernel_rfl) (by kernel_rfl) (fun _ _ _ h => h) (Or.inr ⟨by rfl, rfl⟩) ?_; (try go_simp)
      refine wpAny_take (i := 12) (v := (.bool true)) rfl (by kernel_rfl) (by kernel_rfl) (by kernel_rfl) (fun _ _ _ h => h) (Or.inl ⟨by rfl, (by intro w; go_simp; try rfl)⟩) ?_; (try go_simp)
      refine wpAny_done (by kernel_rfl) ?_ _
      go_wp2
      go_returns
      exact ⟨_, rfl, World.ownsRow_nil _ _ _ _, K1.out.drew⟩
end Go.Proofs.YtafdkfieajdeiaaDoor
/- pack: the law's step of both: Take, Back. -/
/- pack: the law's step of both: Image. -/
/- pack: the law's step of both, by kinds: Left and Mark, Take, Slots, Seal, Image. -/
/- pack: the program's container and the document's, of one plain state, apart in memory. -/
/- pack: what PackBack holds: the container, the image, the slots and the chunks. -/
/- pack: what a scan of a container's own image finds, purely. -/
namespace Go.Proofs.YtafdkfieajdeiaaDoor
open Go.RowKit
set_option linter.unusedVariables false
set_option linter.unusedSimpArgs false
theorem slotOf_here (pre c rest : List UInt8) (h0 : c ≠ []) (hl : c.length < 4294967296) : slotOf (pre ++ slotB c ++ c ++ rest) pre.length = some (pre.length + 8, c.length) := by
  have hp : 1 ≤ c.length := by cases c with | nil => exact absurd rfl h0 | cons _ _ => simp
  have e1 : (pre ++ slotB c ++ c ++ rest).drop pre.length = slotB c ++ c ++ rest := by rw [List.append_assoc, List.append_assoc, List.drop_left, List.append_assoc]
  have e2 : (pre ++ slotB c ++ c ++ rest).drop (pre.length + 8) = c ++ rest := by
    rw [← List.drop_drop, e1, List.append_assoc, List.drop_left' (slotB_len c)]
  have e3 : ((pre ++ slotB c ++ c ++ rest).drop pre.length).take 4 = be 4 c.length := by
    rw [e1]
    unfold slotB
    rw [List.append_assoc, List.append_assoc, List.take_left' (be_length _ _)]
  have e4 : num (((pre ++ slotB c ++ c ++ rest).drop pre.length).take 4) = c.length := by rw [e3, num_be']; exact Nat.mod_eq_of_lt (by simpa using hl)
  have e5 : ((pre ++ slotB c ++ c ++ rest).drop pre.length).take 8 = slotB c := by rw [e1, List.append_assoc, List.take_left' (slotB_len c)]
  have e6 : ((pre ++ slotB c ++ c ++ rest).drop (pre.length + 8)).take c.length = c := by rw [e2, List.take_left]
  have e7 : (pre ++ slotB c ++ c ++ rest).length = pre.length + 8 + c.length + rest.length := by simp [slotB_len]; omega
  unfold slotOf
  rw [e4, e5, e6, e7, if_pos ⟨by omega, hp, by omega, rfl⟩]
theorem slotOf_zeros (pre : List UInt8) (z : Nat) : slotOf (pre ++ List.replicate z 0) pre.length = none := by
  unfold slotOf
  rw [if_neg]
  rintro ⟨h1, h2, _⟩
  have h8 : 8 ≤ z := by simp at h1; omega
  have e : ((pre ++ List.replicate z 0).drop pre.length).take 4 = List.replicate 4 (0 : UInt8) := by
    rw [List.drop_left, List.take_replicate, Nat.min_eq_left (by omega)]
  rw [e] at h2
  have : num (List.replicate 4 (0 : UInt8)) = 0 := by decide
  omega
theorem slotsL_body (z : Nat) : ∀ (cs : List (List UInt8)) (pre : List UInt8) (f : Nat), (∀ c ∈ cs, c ≠ [] ∧ c.length < 4294967296) → cs.length ≤ f → slotsL (pre ++ bodyB cs ++ List.replicate z 0) f pre.length = slotsFrom pre.length cs
  | [], pre, 0, _, _ => rfl
  | [], pre, f + 1, _, _ => by
    have : pre ++ bodyB [] ++ List.replicate z 0 = pre ++ List.replicate z 0 := by simp [bodyB]
    rw [this, slotsL, slotOf_zeros]
    rfl
  | c :: cs, pre, 0, _, h => by simp at h
  | c :: cs, pre, f + 1, hc, h => by
    obtain ⟨h1, h2⟩ := hc c List.mem_cons_self
    have e : pre ++ bodyB (c :: cs) ++ List.replicate z 0 = pre ++ slotB c ++ c ++ (bodyB cs ++ List.replicate z 0) := by simp [bodyB]
    have e2 : pre ++ bodyB (c :: cs) ++ List.replicate z 0 = (pre ++ slotB c ++ c) ++ bodyB cs ++ List.replicate z 0 := by simp [bodyB]
    have hl : (pre ++ slotB c ++ c).length = pre.length + 8 + c.length := by simp [slotB_len]; omega
    have ih := slotsL_body z cs (pre ++ slotB c ++ c) f (fun d hd => hc d (List.mem_cons_of_mem _ hd)) (by simpa using h)
    rw [hl] at ih
    rw [slotsL, e, slotOf_here pre c _ h1 h2]
    simp only
    rw [← e, e2, ih]
    rfl
theorem PSt.chunk_fit {s : PSt} (hk : s.Ok) : ∀ c ∈ s.chunks, c ≠ [] ∧ c.length < 4294967296 := fun c hc => by
  refine ⟨hk.n c hc, ?_⟩
  obtain ⟨i, hi, rfl⟩ := List.getElem_of_mem hc
  obtain ⟨o, _, _, h3, _⟩ := slot_at s.chunks [] i hi
  have h1 := hk.b1
  have h2 := hk.room
  rw [s.bs_len] at h1
  simp at h3
  omega
theorem PSt.img_lead (s : PSt) (hk : s.Ok) : s.img.take (s.len - 16) = s.bs ++ List.replicate (s.len - 16 - s.bs.length) 0 := by
  have h1 := hk.b1
  have h3 := PSt.bare_len hk
  have h2 : s.len = s.size * s.sectors := rfl
  have e : s.bare.take (s.len - 16) = s.bs ++ List.replicate (s.len - 16 - s.bs.length) 0 := by
    unfold PSt.bare
    rw [List.take_append, List.take_of_length_le (by omega), List.take_replicate, Nat.min_eq_left (by omega)]
  unfold PSt.img
  split
  · rw [List.take_append_of_le_length (by rw [List.length_take]; omega), List.take_take, Nat.min_self, e]
  · exact e
theorem PSt.img_slots {s : PSt} (hk : s.Ok) : scL s.img = s.slots := by
  have h1 := hk.b1
  have h2 : s.len = s.size * s.sectors := rfl
  have hb := s.bs_len
  unfold scL
  rw [PSt.img_len hk, s.img_lead hk]
  unfold slotsA PSt.slots PSt.bs
  have := slotsL_body (s.len - 16 - s.bs.length) s.chunks (headB s.id s.sectors) (headB s.id s.sectors ++ bodyB s.chunks ++ List.replicate (s.len - 16 - s.bs.length) 0).length (PSt.chunk_fit hk) (by
    have := body_len s.chunks
    simp only [List.length_append]
    omega)
  rw [headB_len] at this
  exact this
theorem PSt.img_head {s : PSt} (hk : s.Ok) : s.img.take 16 = headB s.id s.sectors ∧ scId s.img = s.id := by
  have h1 : s.img.take 16 = headB s.id s.sectors := by
    rw [PSt.img_take hk 16 (by rw [s.bs_len]; omega)]
    unfold PSt.bs
    rw [List.take_left' (headB_len _ _)]
  refine ⟨h1, ?_⟩
  unfold scId
  have e : (s.img.drop 4).take 4 = ((s.img.take 16).drop 4).take 4 := by rw [List.drop_take, List.take_take]; rfl
  rw [e, h1]
  have e2 : ((headB s.id s.sectors).drop 4).take 4 = be 4 s.id := by
    unfold headB edgeB edge0
    rw [List.append_assoc, List.append_assoc, List.drop_left' (show dpak.length = 4 from rfl), List.take_left' (be_length _ _)]
  rw [e2]
  rw [num_be']
  exact Nat.mod_eq_of_lt (by simpa using hk.i)
theorem PSt.img_foot {s : PSt} (hk : s.Ok) : decide (s.img.drop (s.len - 16) = edgeB dfot s.slots.length (endL s.slots)) = s.shut := by
  have h1 := hk.b1
  have h2 : s.len = s.size * s.sectors := rfl
  have h3 := PSt.bare_len hk
  cases hs : s.shut with
  | true =>
    unfold PSt.img
    rw [if_pos hs, List.drop_left' (by rw [List.length_take]; omega)]
    exact decide_eq_true rfl
  | false =>
    unfold PSt.img
    rw [if_neg (by rw [hs]; decide)]
    rw [decide_eq_false_iff_not]
    intro e
    have e2 : s.bare.drop (s.len - 16) = List.replicate 16 0 := by
      unfold PSt.bare
      rw [List.drop_append, List.drop_of_length_le (by omega), List.nil_append, List.drop_replicate]
      congr 1
      omega
    rw [e2] at e
    have := congrArg (fun l => l[0]?) e
    unfold edgeB edge0 dfot at this
    simp at this
theorem PSt.img_scan {s : PSt} (hk : s.Ok) (hm : PMay s.size s.sectors) : scR s.size s.sectors s.img = (s.id, s.slots, s.shut, 0) := by
  unfold scR
  have hl := PSt.img_len hk
  rw [if_pos ⟨hm, by rw [hl]; unfold PSt.len; simp⟩, (PSt.img_head hk).2, Int.toNat_natCast, if_pos (PSt.img_head hk).1, PSt.img_slots hk, hl, PSt.img_foot hk]
theorem PSt.slot_chunk {s : PSt} (hk : s.Ok) {i : Nat} {c : List UInt8} (h : s.chunks[i]? = some c) : ∃ o : Nat, s.slots[i]? = some (o, c.length) ∧ chunkOf s.img o c.length = some c ∧ s.read o c.length = some c ∧ o + c.length ≤ s.bs.length := by
  obtain ⟨hi, rfl⟩ := List.getElem?_eq_some_iff.1 h
  have hch := PSt.chunk_fit hk _ (List.getElem_mem hi)
  have h1 := hk.b1
  have h2 : s.len = s.size * s.sectors := rfl
  obtain ⟨o, q1, q2, q3, q4⟩ := slot_at s.chunks (headB s.id s.sectors) i hi
  rw [headB_len] at q1 q3 q4
  have hb := s.bs_len
  have he : s.chunks = s.chunks.take i ++ s.chunks[i] :: s.chunks.drop (i + 1) := by rw [← List.drop_eq_getElem_cons hi, List.take_append_drop]
  have hq : s.slots[i]? = some (16 + (bodyB (s.chunks.take i)).length + 8, s.chunks[i].length) := by
    unfold PSt.slots
    conv => lhs; rw [he, slotsFrom_append]
    rw [List.getElem?_append_right (by rw [slotsFrom_len, List.length_take]; omega), slotsFrom_len, List.length_take, Nat.min_eq_left (by omega), Nat.sub_self]
    rfl
  have ho : o = 16 + (bodyB (s.chunks.take i)).length + 8 := by
    have := q1.symm.trans hq
    simpa using this
  refine ⟨o, q1, ?_, ?_, by omega⟩
  · have hbs : s.bs = (headB s.id s.sectors ++ bodyB (s.chunks.take i)) ++ slotB s.chunks[i] ++ s.chunks[i] ++ bodyB (s.chunks.drop (i + 1)) := by
      unfold PSt.bs
      conv => lhs; rw [he, bodyB_append]
      simp [bodyB]
    have himg : s.img = (headB s.id s.sectors ++ bodyB (s.chunks.take i)) ++ slotB s.chunks[i] ++ s.chunks[i] ++ (bodyB (s.chunks.drop (i + 1)) ++ s.img.drop s.bs.length) := by
      rw [← List.append_assoc, ← hbs]
      have := PSt.img_take hk s.bs.length (Nat.le_refl _)
      rw [List.take_length] at this
      conv => lhs; rw [← List.take_append_drop s.bs.length s.img, this]
    have hpl : (headB s.id s.sectors ++ bodyB (s.chunks.take i)).length = o - 8 := by rw [List.length_append, headB_len]; omega
    have hs := slotOf_here (headB s.id s.sectors ++ bodyB (s.chunks.take i)) s.chunks[i] (bodyB (s.chunks.drop (i + 1)) ++ s.img.drop s.bs.length) hch.1 hch.2
    rw [← himg, hpl] at hs
    unfold chunkOf
    rw [show ((o : Int) - 8).toNat = o - 8 by omega, hs, Int.toNat_natCast, Int.toNat_natCast, if_pos ⟨by omega, by rw [show o - 8 + 8 = o by omega], by omega⟩]
    congr 1
    have e1 : (s.img.drop o).take s.chunks[i].length = ((s.img.take s.bs.length).drop o).take s.chunks[i].length := by
      rw [List.drop_take, List.take_take, Nat.min_eq_left (by omega)]
    rw [e1, PSt.img_take hk _ (Nat.le_refl _), List.take_length]
    exact q2
  · rw [PSt.read_at q1 (List.getElem?_eq_getElem hi) rfl, if_pos rfl]
end Go.Proofs.YtafdkfieajdeiaaDoor
/- A slice of deduplaw13's steps with all their fields, among a law's arguments: opened. -/
/- pack: bytes among a law's arguments, opened. -/
namespace Go.Proofs.YtafdkfieajdeiaaDoor
open Go.ChangeShapes Go.WideShapes Go.ChangeAt Go.RowKit Go.Joins Go.ChangeMaps
set_option linter.unusedVariables false
theorem cellsY : Tryd.prog.cellsOf 5 = 1 := by kernel_rfl
theorem bytesY : Tryd.prog.bytesOf 5 = 1 := by kernel_rfl
set_option maxRecDepth 100000 in
/-- Bytes among a law's arguments, opened. -/
theorem bytes_open {H : Type} {enc : TypeId × Value → H} {W : World} {base : Nat} {v : Value} {d : DataW H} {p : List MemPlace} (hv : Value.okWide Tryd.prog W .any base 32 v) (h : DataW.Trod enc Tryd.prog W 0 (fun _ => true) true 32 v d p) :
    ∃ l : List UInt8, Bt W v l ∧
      ∀ (ts : List TypeId) (ds : List (DataW H)) (j : Nat), (DataW.weightsEach Tryd.prog ts ds).all (· ≤ reachBytes) = true → ts[j]? = some 32 → ds[j]? = some d → l.length ≤ 140737488351232 := by
  obtain ⟨a1, len1, cap1, rfl⟩ := okWide_slice Tryd.underlying32 hv
  obtain ⟨fuel, hf⟩ := h
  rcases open_ints Tryd.underlying32 Tryd.underlying5 cellsY hf with ⟨hcs, hx⟩ | ⟨a, len, cap, zs, hcs, hq, hl, hm, hz, hx, hcell, hwz⟩
  · simp [Value.cells] at hcs
    obtain ⟨rfl, rfl, rfl⟩ := hcs
    exact ⟨[], Bt.nil _, fun _ _ _ _ _ _ => by simp⟩
  · simp [Value.cells] at hcs
    obtain ⟨rfl, rfl, rfl⟩ := hcs
    simp only [if_pos] at hz
    have hb : ∀ z ∈ zs, 0 ≤ z ∧ z ≤ 255 := fun z hz' => by simpa [Lit.wf, IntKind.min, IntKind.max, IntKind.signed, IntKind.bits] using hwz z hz'
    have hlen : ((zs.take len1).map fun z => UInt8.ofNat z.toNat).length = len1 := by rw [List.length_map, List.length_take]; omega
    have hkey : ∀ j x, ((zs.take len1).map fun z => UInt8.ofNat z.toNat)[j]? = some x → W.cell? (a.add j) = some (U8 x) := by
      intro j x hj
      have hj1 : j < len1 := by have := (List.getElem?_eq_some_iff.1 hj).1; rw [hlen] at this; exact this
      have hjz : j < zs.length := by omega
      rw [hcell j hjz]
      have h1 : zs.getD j 0 = zs[j] := by simp [hjz]
      have h3 := hb zs[j] (List.getElem_mem hjz)
      rw [h1, U8_of _ h3.1 h3.2]
      simp [hj1, hjz] at hj
      rw [hj]
    refine ⟨(zs.take len1).map fun z => UInt8.ofNat z.toNat, ⟨some a, cap1, by rw [hlen], by rw [hlen]; omega, fun hp => ?_⟩, ?_⟩
    · obtain ⟨b, off, spot⟩ := a
      have h0 := hkey 0 _ (List.getElem?_eq_getElem hp)
      have hspot : spot = none := by simpa [Addr.add] using World.cell?_spot h0
      subst hspot
      refine ⟨b, off, rfl, fun j hj => ?_⟩
      have := hkey j _ (List.getElem?_eq_getElem hj)
      rwa [add_none] at this
    · intro ts ds j hall hts hds
      have hd : d = .slice (lits .u8 (zs.take len1)) (lits .u8 (zs.drop len1)) := congrArg Prod.fst hx
      rw [hd] at hds
      have := sized_slice hall (j := j) hts hds Tryd.underlying32
      rw [bytesY] at this
      simp only [lits, List.length_map, List.length_take, List.length_drop, reachBytes] at this
      rw [hlen]
      omega
end Go.Proofs.YtafdkfieajdeiaaDoor
namespace Go.Proofs.YtafdkfieajdeiaaDoor
open Go.ChangeShapes Go.WideShapes Go.ChangeAt Go.RowKit Go.Joins Go.ChangeMaps
set_option linter.unusedVariables false
/-- A step. -/
structure POp where
  kind : Int
  N : Int
  bv : Value
  bs : List UInt8
  off : Int
  len : Int
instance : Inhabited POp := ⟨⟨0, 0, .slice none 0 0, [], 0, 0⟩⟩
def I64 (z : Int) : Prop := -9223372036854775808 ≤ z ∧ z ≤ 9223372036854775807
structure POp.ok (w : World) (p : POp) : Prop where
  kind : I64 p.kind
  N : I64 p.N
  bytes : Bt w p.bv p.bs
  len : p.bs.length ≤ 140737488351232
  off : I64 p.off
  many : I64 p.len
  blk : ∀ k, 0 < p.bs.length → p.bv.ownBlock = some k → k < w.heap.size
def POps (w : World) (v : Value) (n : Nat) (f : Nat → POp) : Prop :=
  ∃ a cap, v = .slice a n cap ∧ (0 < n → ∃ b off, a = some ⟨b, off, none⟩ ∧ ∀ i, i < n → (f i).ok w ∧ w.cell? ⟨b, off + i * 5, none⟩ = some (.int .i64 (f i).kind) ∧ w.cell? ⟨b, off + i * 5 + 1, none⟩ = some (.int .i64 (f i).N) ∧ w.cell? ⟨b, off + i * 5 + 2, none⟩ = some (f i).bv ∧ w.cell? ⟨b, off + i * 5 + 3, none⟩ = some (.int .i64 (f i).off) ∧ w.cell? ⟨b, off + i * 5 + 4, none⟩ = some (.int .i64 (f i).len))
theorem cellsPO : Tryd.prog.cellsOf 36 = 5 := by kernel_rfl
theorem bytesPO : Tryd.prog.bytesOf 36 = 56 := by kernel_rfl
theorem cellsPI : Tryd.prog.cellsOf 3 = 1 := by kernel_rfl
theorem cellsPS : Tryd.prog.cellsOf 34 = 2 := by kernel_rfl
theorem cellsPB : Tryd.prog.cellsOf 32 = 1 := by kernel_rfl
theorem i64_wf {z : Int} (h : (Lit.int .i64 z).wf = true) : I64 z := by
  simpa [I64, Lit.wf, IntKind.min, IntKind.max, IntKind.signed, IntKind.bits] using h
theorem weights_mem_all {H : Type} {P : Program} {e : TypeId} : ∀ {ds : List (DataW H)} {j : Nat} {d : DataW H}, ds[j]? = some d → ∀ n ∈ d.weights P e, n ∈ DataW.weightsAll P e ds
  | d0 :: ds, 0, d, hd, n, hn => by
    simp only [List.getElem?_cons_zero, Option.some.injEq] at hd
    subst hd
    simp only [DataW.weightsAll, List.mem_append]
    exact Or.inl hn
  | d0 :: ds, j + 1, d, hd, n, hn => by
    simp only [List.getElem?_cons_succ] at hd
    simp only [DataW.weightsAll, List.mem_append]
    exact Or.inr (weights_mem_all hd n hn)
  | [], _, _, hd, _, _ => by simp at hd
theorem bytes_trod {H : Type} {enc : TypeId × Value → H} {W : World} {held : Bool} {fuel : Nat} {c : Value} {x : DataW H × List MemPlace} (h : DataW.trod enc Tryd.prog W 0 (fun _ => true) held fuel 32 [c] = some x) (hw : ∀ q ∈ x.1.weights Tryd.prog 32, q ≤ reachBytes) :
    ∃ l : List UInt8, Bt W c l ∧ l.length ≤ 140737488351232 ∧ ∀ k, 0 < l.length → c.ownBlock = some k → k < W.heap.size := by
  rcases open_ints Tryd.underlying32 Tryd.underlying5 cellsY h with ⟨hcs, hx⟩ | ⟨a, len1, cap1, zs, hcs, hq, hl, hm, hz, hx, hcell, hwz⟩
  · have hc : c = .slice none 0 0 := by simpa using hcs
    subst hc
    exact ⟨[], Bt.nil _, by simp, fun k h => by simp at h⟩
  · have hc : c = .slice (some a) len1 cap1 := by simpa using hcs
    subst hc
    simp only [if_pos] at hz
    have hb : ∀ z ∈ zs, 0 ≤ z ∧ z ≤ 255 := fun z hz' => by simpa [Lit.wf, IntKind.min, IntKind.max, IntKind.signed, IntKind.bits] using hwz z hz'
    have hlen : ((zs.take len1).map fun z => UInt8.ofNat z.toNat).length = len1 := by rw [List.length_map, List.length_take]; omega
    have hkey : ∀ j x, ((zs.take len1).map fun z => UInt8.ofNat z.toNat)[j]? = some x → W.cell? (a.add j) = some (U8 x) := by
      intro j x hj
      have hj1 : j < len1 := by have := (List.getElem?_eq_some_iff.1 hj).1; rw [hlen] at this; exact this
      have hjz : j < zs.length := by omega
      rw [hcell j hjz]
      have h1 : zs.getD j 0 = zs[j] := by simp [hjz]
      have h3 := hb zs[j] (List.getElem_mem hjz)
      rw [h1, U8_of _ h3.1 h3.2]
      simp [hj1, hjz] at hj
      rw [hj]
    obtain ⟨b, off, spot⟩ := a
    have hspot : 0 < ((zs.take len1).map fun z => UInt8.ofNat z.toNat).length → spot = none := fun hp => by
      have h0 := hkey 0 _ (List.getElem?_eq_getElem hp)
      simpa [Addr.add] using World.cell?_spot h0
    refine ⟨(zs.take len1).map fun z => UInt8.ofNat z.toNat, ⟨_, cap1, by rw [hlen], by rw [hlen]; omega, fun hp => ?_⟩, ?_, fun k hp hk => ?_⟩
    · have := hspot hp
      subst this
      refine ⟨b, off, rfl, fun j hj => ?_⟩
      have := hkey j _ (List.getElem?_eq_getElem hj)
      rwa [add_none] at this
    · have hwx := hw ((lits .u8 (zs.take len1) ++ lits .u8 (zs.drop len1) : List (DataW H)).length * Tryd.prog.bytesOf 5) (by
        rw [hx]
        simp only [DataW.weights, Tryd.underlying32]
        rw [List.length_append]
        exact List.mem_cons_self ..)
      rw [bytesY] at hwx
      simp only [lits, List.length_append, List.length_map, List.length_take, List.length_drop, reachBytes] at hwx
      rw [hlen]
      omega
    · have := hspot hp
      subst this
      have h0 := hkey 0 _ (List.getElem?_eq_getElem hp)
      have h1 := World.block_lt_of_cell? W _ h0
      simp [Value.ownBlock] at hk
      subst hk
      simpa [Addr.add] using h1
theorem pop_trod {H : Type} {enc : TypeId × Value → H} {W : World} {held : Bool} {fuel : Nat} {c0 c1 c2 c3 c4 : Value} {x : DataW H × List MemPlace} (h : DataW.trod enc Tryd.prog W 0 (fun _ => true) held fuel 36 [c0, c1, c2, c3, c4] = some x) (hw : ∀ q ∈ x.1.weights Tryd.prog 36, q ≤ reachBytes) :
    ∃ p : POp, p.ok W ∧ c0 = .int .i64 p.kind ∧ c1 = .int .i64 p.N ∧ c2 = p.bv ∧ c3 = .int .i64 p.off ∧ c4 = .int .i64 p.len := by
  obtain ⟨xs, n, _, hx, _, hlen, hf⟩ := DataW.trod_struct Tryd.underlying36 h
  have hl : xs.length = 4 := hlen
  match xs, hl with
  | [x0, x1, x2, x3], _ =>
    have h0 : DataW.trod enc Tryd.prog W 0 (fun _ => true) held n 3 (List.take (Tryd.prog.cellsOf 3) (List.drop 0 [c0, c1, c2, c3, c4])) = some x0 := hf 0 _ rfl
    have h1 : DataW.trod enc Tryd.prog W 0 (fun _ => true) held n 3 (List.take (Tryd.prog.cellsOf 3) (List.drop 1 [c0, c1, c2, c3, c4])) = some x1 := hf 1 _ rfl
    have h2 : DataW.trod enc Tryd.prog W 0 (fun _ => true) held n 32 (List.take (Tryd.prog.cellsOf 32) (List.drop 2 [c0, c1, c2, c3, c4])) = some x2 := hf 2 _ rfl
    have h3 : DataW.trod enc Tryd.prog W 0 (fun _ => true) held n 34 (List.take (Tryd.prog.cellsOf 34) (List.drop 3 [c0, c1, c2, c3, c4])) = some x3 := hf 3 _ rfl
    rw [cellsPI] at h0 h1
    rw [cellsPB] at h2
    rw [cellsPS] at h3
    obtain ⟨a, q0, _, w0⟩ := DataW.trod_int Tryd.underlying3 h0
    obtain ⟨d, q1, _, w1⟩ := DataW.trod_int Tryd.underlying3 h1
    simp at q0 q1
    obtain ⟨l, b1, b2, b3⟩ := bytes_trod h2 (fun q hq => hw q (by
      have e : x.1 = .agg [x0.1, x1.1, x2.1, x3.1] := by rw [hx]; rfl
      rw [e]
      simp only [DataW.weights, Tryd.underlying36]
      exact DataW.weights_mem_each (j := 2) (t := 32) (d := x2.1) rfl rfl _ hq))
    obtain ⟨ys, m, _, _, _, hlen3, hf3⟩ := DataW.trod_struct Tryd.underlying34 h3
    have hl3 : ys.length = 2 := hlen3
    match ys, hl3 with
    | [y0, y1], _ =>
      have g0 : DataW.trod enc Tryd.prog W 0 (fun _ => true) held m 3 (List.take (Tryd.prog.cellsOf 3) (List.drop 0 [c3, c4])) = some y0 := hf3 0 _ rfl
      have g1 : DataW.trod enc Tryd.prog W 0 (fun _ => true) held m 3 (List.take (Tryd.prog.cellsOf 3) (List.drop 1 [c3, c4])) = some y1 := hf3 1 _ rfl
      rw [cellsPI] at g0 g1
      obtain ⟨o, r0, _, v0⟩ := DataW.trod_int Tryd.underlying3 g0
      obtain ⟨e, r1, _, v1⟩ := DataW.trod_int Tryd.underlying3 g1
      simp at r0 r1
      exact ⟨⟨a, d, c2, l, o, e⟩, ⟨i64_wf w0, i64_wf w1, b1, b2, i64_wf v0, i64_wf v1, b3⟩, q0, q1, rfl, r0, r1⟩
set_option maxRecDepth 100000 in
theorem pops_open {H : Type} {enc : TypeId × Value → H} {W : World} {base : Nat} {v : Value} {d : DataW H} {p : List MemPlace} (hv : Value.okWide Tryd.prog W .any base 23 v) (h : DataW.Trod enc Tryd.prog W 0 (fun _ => true) true 23 v d p)
    (ts : List TypeId) (ds : List (DataW H)) (j : Nat) (hall : (DataW.weightsEach Tryd.prog ts ds).all (· ≤ reachBytes) = true) (hts : ts[j]? = some 23) (hds : ds[j]? = some d) :
    ∃ (n : Nat) (f : Nat → POp), POps W v n f ∧ n * 56 ≤ 140737488351232 := by
  obtain ⟨a1, len1, cap1, rfl⟩ := okWide_slice Tryd.underlying23 hv
  obtain ⟨fuel, hf⟩ := h
  rcases DataW.trod_slice Tryd.underlying23 hf with ⟨hcs, hx⟩ | ⟨a, len, cap, elems, rest, n, _, hcs, hx, _, hl, hm, he, hel, _, _⟩
  · simp [Value.cells] at hcs
    obtain ⟨rfl, rfl, rfl⟩ := hcs
    exact ⟨0, fun _ => default, ⟨none, 0, rfl, fun h => by omega⟩, by omega⟩
  · simp [Value.cells] at hcs
    obtain ⟨rfl, rfl, rfl⟩ := hcs
    rw [cellsPO] at hel
    have hd : d = .slice (elems.map (·.1)) (rest.map (·.1)) := congrArg Prod.fst hx
    rw [hd] at hds
    have hwt : ∀ i (hi : i < elems.length), ∀ q ∈ elems[i].1.weights Tryd.prog 36, q ≤ reachBytes := fun i hi q hq => by
      have hmem : q ∈ (DataW.slice (elems.map (·.1)) (rest.map (·.1)) : DataW H).weights Tryd.prog 23 := by
        simp only [DataW.weights, Tryd.underlying23]
        refine List.mem_cons_of_mem _ (List.mem_append_left _ (weights_mem_all (j := i) (d := elems[i].1) ?_ q hq))
        rw [List.getElem?_map, List.getElem?_eq_getElem hi]
        rfl
      have := List.all_eq_true.1 hall _ (DataW.weights_mem_each hts hds q hmem)
      simpa using this
    have key : ∀ i, i < len1 → ∃ q : POp, q.ok W ∧ W.cell? (a.add (i * 5)) = some (.int .i64 q.kind) ∧ W.cell? ((a.add (i * 5)).add 1) = some (.int .i64 q.N) ∧ W.cell? ((a.add (i * 5)).add 2) = some q.bv ∧ W.cell? ((a.add (i * 5)).add 3) = some (.int .i64 q.off) ∧ W.cell? ((a.add (i * 5)).add 4) = some (.int .i64 q.len) := by
      intro i hi
      have h1 := hel i hi
      have h2 : elems[i]? = some elems[i] := List.getElem?_eq_getElem (by omega)
      rw [h2] at h1
      obtain ⟨cs, hc, ht⟩ := Option.bind_eq_some_iff.1 h1
      obtain ⟨_, hcl, hcc⟩ := World.cells?_some hc
      match cs, hcl with
      | [c0, c1, c2, c3, c4], _ =>
        obtain ⟨q, hq, rfl, rfl, rfl, rfl, rfl⟩ := pop_trod ht (hwt i (by omega))
        have z0 := hcc 0 (by decide)
        exact ⟨q, hq, by simpa [Addr.add] using z0, hcc 1 (by decide), hcc 2 (by decide), hcc 3 (by decide), hcc 4 (by decide)⟩
    obtain ⟨f, hfk⟩ := Go.Deep.choose_lt key
    refine ⟨len1, f, ⟨some a, cap1, rfl, fun hpos => ?_⟩, ?_⟩
    · obtain ⟨b, off, spot⟩ := a
      have hspot : spot = none := by
        obtain ⟨_, h0, _⟩ := hfk 0 hpos
        simpa [Addr.add] using World.cell?_spot h0
      subst hspot
      refine ⟨b, off, rfl, fun i hi => ?_⟩
      obtain ⟨hS, h0, h1, h2, h3, h4⟩ := hfk i hi
      rw [add_none] at h0 h1 h2 h3 h4
      rw [add_none] at h1 h2 h3 h4
      exact ⟨hS, h0, h1, h2, h3, h4⟩
    · have := sized_slice hall (j := j) hts hds Tryd.underlying23
      rw [bytesPO] at this
      simp only [List.length_map, reachBytes] at this
      omega
end Go.Proofs.YtafdkfieajdeiaaDoor
namespace Go.Proofs.YtafdkfieajdeiaaDoor
open Go.RowKit
set_option linter.unusedVariables false
set_option linter.unusedSimpArgs false
theorem pS_kept {g : Nat} {s : PSt} {w w' : World} {S : Nat → Prop} (h : PW g s w) (k : Kept S w w') (hs : ¬ S g) (i : Nat) : pS g w' i ↔ pS g w i := by
  obtain ⟨⟨vb, vs, h1, _, _⟩, _, _⟩ := h
  rw [pS_of h1, pS_of (blk_kept k hs h1)]
theorem rows_apart {w : World} {B C : Nat} {e1 e2 : TypeId} {z1 z2 n1 n2 : Nat} {v1 v2 : Value} {x1 x2 : List Value} (h1 : w.ownsRow B e1 z1 v1 n1 x1) (h2 : w.ownsRow C e2 z2 v2 n2 x2) (hne : e1 ≠ e2) {k : Nat} (a : v1.ownBlock = some k) (b : v2.ownBlock = some k) : False := by
  rcases h2.2 with ⟨rfl, _⟩ | ⟨g, cap, cur, rfl, _, hb, _⟩
  · simp [Value.ownBlock] at b
  · simp [Value.ownBlock] at b
    subst b
    exact own_apart h1 hb hne a
structure PA (w : World) (g gi : Nat) (s : PSt) (wv cv : Value) (sl : List (Nat × Nat)) (cl : List (List UInt8)) (us : List Value) (wr : World) : Prop where
  pw : PW g s wr
  ti : s.TI
  img : wr.heap[gi]? = some (.cells (s.last.map U8).toArray 5 (0, 0))
  same : Same w wr
  new : ∀ k, pS g wr k → w.heap.size ≤ k ∧ k ≠ gi
  gi : w.heap.size ≤ gi
  want : wr.ownsRow w.heap.size 34 2 wv sl.length (slotCells sl)
  wantN : ∀ k, wv.ownBlock = some k → ¬ pS g wr k
  ch : wr.ownsRow w.heap.size 32 1 cv cl.length us
  chN : ∀ k, cv.ownBlock = some k → ¬ pS g wr k
  us : ∀ (i : Nat) (c : List UInt8), cl[i]? = some c → ∃ u, us[i]? = some u ∧ Bt w u c
theorem PA.step {w wr wr' : World} {g gi : Nat} {s t : PSt} {wv cv : Value} {sl : List (Nat × Nat)} {cl : List (List UInt8)} {us : List Value} (h : PA w g gi s wv cv sl cl us wr) (k : Kept (fun i => pS g wr i ∨ i = gi) wr wr') (row : ∀ i, i < wr.heap.size → pS g wr' i → pS g wr i) (p : PW g t wr') (ti : t.TI) (hi : wr'.heap[gi]? = some (.cells (t.last.map U8).toArray 5 (0, 0))) : PA w g gi t wv cv sl cl us wr' := by
  have hs := h.same.size
  have hgl := blk_lt h.img
  have hgw := h.gi
  refine ⟨p, ti, hi, h.same.trans' k (fun i hi e => ?_), fun i hp => ?_, h.gi, own_kept h.want k (fun i hw e => ?_), fun i hw hp => h.wantN i hw (row i (h.want.lt i hw).2 hp), own_kept h.ch k (fun i hw e => ?_), fun i hw hp => h.chN i hw (row i (h.ch.lt i hw).2 hp), h.us⟩
  · rcases e with e | e
    · have := (h.new i e).1; omega
    · omega
  · by_cases hl : i < wr.heap.size
    · exact h.new i (row i hl hp)
    · omega
  · rcases e with e | e
    · exact h.wantN i hw e
    · exact own_apart h.want h.img (by decide) (by rw [hw, e])
  · rcases e with e | e
    · exact h.chN i hw e
    · exact own_apart h.ch h.img (by decide) (by rw [hw, e])
theorem PA.same' {w wr wr' : World} {g gi : Nat} {s : PSt} {wv cv : Value} {sl : List (Nat × Nat)} {cl : List (List UInt8)} {us : List Value} (h : PA w g gi s wv cv sl cl us wr) (k : Same wr wr') : PA w g gi s wv cv sl cl us wr' :=
  h.step (k.mono (fun _ _ e => e.elim)) (fun i _ hp => (pS_same h.pw.lt k i).1 hp) (h.pw.same k) h.ti (blk_kept k (fun h => h) h.img)
theorem PA.turn {w wr wr' : World} {g gi : Nat} {s t : PSt} {wv cv : Value} {sl : List (Nat × Nat)} {cl : List (List UInt8)} {us : List Value} (h : PA w g gi s wv cv sl cl us wr) (k : Turns g wr wr') (p : PW g t wr') (ti : t.TI) (hl : t.last = s.last) : PA w g gi t wv cv sl cl us wr' :=
  h.step (k.kept.mono (fun _ _ e => Or.inl e)) k.row p ti (by rw [hl]; exact blk_kept k.kept (fun e => (h.new gi e).2 rfl) h.img)
/-- Take, and what it told laid over the image. -/
theorem PA.took {w wr w1 w2 : World} {g gi : Nat} {s : PSt} {wv cv : Value} {sl : List (Nat × Nat)} {cl : List (List UInt8)} {us : List Value} (h : PA w g gi s wv cv sl cl us wr) (k : Turns g wr w1) (p : PW g s.took w1) (k2 : Kept (fun i => i = gi) w1 w2) (hi : w2.heap[gi]? = some (.cells (s.img.map U8).toArray 5 (0, 0))) : PA w g gi s.took wv cv sl cl us w2 := by
  have hgl := blk_lt h.img
  have hn : ∀ i, pS g w1 i → i ≠ gi := fun i hp e => by
    subst e
    exact (h.new i (k.row i hgl hp)).2 rfl
  have hgg : g ≠ gi := hn g (Or.inl rfl)
  refine h.step ?_ (fun i hl hp => k.row i hl ((pS_kept p k2 hgg i).1 hp)) (p.kept k2 hn) (PSt.took_ti h.pw.ok) (by rw [PSt.took_last h.pw.ok]; exact hi)
  exact (k.kept.mono (fun _ _ e => Or.inl e)).trans' k2 (fun i _ e => Or.inr e)
theorem PA.pushW {w wr wr' : World} {g gi : Nat} {s : PSt} {wv v' cv : Value} {sl : List (Nat × Nat)} {cl : List (List UInt8)} {us : List Value} (h : PA w g gi s wv cv sl cl us wr) (x : Nat × Nat) (ho : wr'.ownsRow w.heap.size 34 2 v' (sl.length + 1) (slotCells sl ++ [.int .i64 (x.1 : Nat), .int .i64 (x.2 : Nat)])) (hg : wr.grownBy wr' wv.ownBlock) (hat : ∀ q, v'.ownBlock = some q → wv.ownBlock = some q ∨ q = wr.heap.size) : PA w g gi s v' cv (sl ++ [x]) cl us wr' := by
  have k : Kept (fun i => wv.ownBlock = some i) wr wr' := (Kept.refl (fun i => wv.ownBlock = some i) wr).grown hg (fun k hk _ => hk)
  have hp := fun i => pS_kept h.pw k (fun e => h.wantN g e (Or.inl rfl)) i
  refine ⟨h.pw.kept k (fun i hi e => h.wantN i e hi), h.ti, blk_kept k (fun e => own_apart h.want h.img (by decide) e) h.img, h.same.grown hg (fun q hq hl => by have := (h.want.lt q hq).1; omega), fun i hi => h.new i ((hp i).1 hi), h.gi, ?_, fun q hq hpq => ?_, own_kept h.ch k (fun i hw e => rows_apart h.ch h.want (by decide) hw e), fun q hq hpq => h.chN q hq ((hp q).1 hpq), h.us⟩
  · rw [List.length_append, slotCells_append]
    exact ho
  · rcases hat q hq with e | e
    · exact h.wantN q e ((hp q).1 hpq)
    · have := h.pw.below ((hp q).1 hpq)
      omega
theorem PA.pushC {w wr wr' : World} {g gi : Nat} {s : PSt} {wv v' cv u : Value} {sl : List (Nat × Nat)} {cl : List (List UInt8)} {us : List Value} (h : PA w g gi s wv cv sl cl us wr) (c : List UInt8) (ho : wr'.ownsRow w.heap.size 32 1 v' (cl.length + 1) (us ++ [u])) (hg : wr.grownBy wr' cv.ownBlock) (hat : ∀ q, v'.ownBlock = some q → cv.ownBlock = some q ∨ q = wr.heap.size) (hu : Bt w u c) : PA w g gi s wv v' sl (cl ++ [c]) (us ++ [u]) wr' := by
  have k : Kept (fun i => cv.ownBlock = some i) wr wr' := (Kept.refl (fun i => cv.ownBlock = some i) wr).grown hg (fun k hk _ => hk)
  have hp := fun i => pS_kept h.pw k (fun e => h.chN g e (Or.inl rfl)) i
  have hul : us.length = cl.length := by have := h.ch.1; simpa using this
  refine ⟨h.pw.kept k (fun i hi e => h.chN i e hi), h.ti, blk_kept k (fun e => own_apart h.ch h.img (by decide) e) h.img, h.same.grown hg (fun q hq hl => by have := (h.ch.lt q hq).1; omega), fun i hi => h.new i ((hp i).1 hi), h.gi, own_kept h.want k (fun i hw e => rows_apart h.want h.ch (by decide) hw e), fun q hq hpq => h.wantN q hq ((hp q).1 hpq), ?_, fun q hq hpq => ?_, fun i d hd => ?_⟩
  · rw [List.length_append]
    exact ho
  · rcases hat q hq with e | e
    · exact h.chN q e ((hp q).1 hpq)
    · have := h.pw.below ((hp q).1 hpq)
      omega
  · rw [List.getElem?_append] at hd
    split at hd
    next hl =>
      obtain ⟨t, e1, e2⟩ := h.us i d hd
      exact ⟨t, by rw [List.getElem?_append_left (by omega)]; exact e1, e2⟩
    next hl =>
      have hh := (List.getElem?_eq_some_iff.1 hd)
      obtain ⟨h1, h2⟩ := hh
      have h3 : i - cl.length = 0 := by simp at h1; omega
      simp [h3] at h2
      subst h2
      exact ⟨u, by rw [List.getElem?_append_right (by omega), hul, h3]; rfl, hu⟩
theorem PSt.app_chunks {s : PSt} {c : List UInt8} (h : s.appErr c.length = 0) : (s.app c).chunks = s.chunks ++ [c] ∧ (s.app c).slots = s.slots ++ [(s.bs.length + 8, c.length)] ∧ (s.app c).shut = s.shut := by
  obtain ⟨e, hs⟩ := PSt.app_is h
  rw [e]
  refine ⟨rfl, ?_, rfl⟩
  unfold PSt.slots
  show slotsFrom 16 (s.chunks ++ [c]) = _
  rw [slotsFrom_append, s.bs_len]
  rfl
end Go.Proofs.YtafdkfieajdeiaaDoor
/- pack: the law's 'sectors' of what both Takes told. -/
/- pack: Take of the document. -/
namespace Go.Proofs.YtafdkfieajdeiaaDoor
open Go.RowKit
set_option linter.unusedVariables false
set_option linter.unusedSimpArgs false
theorem ba_beqD (a b : List UInt8) : ((⟨a.toArray⟩ : ByteArray).toList == (⟨b.toArray⟩ : ByteArray).toList) = decide (a = b) := by
  rw [Lib.toList_data, Lib.toList_data, ba_list, ba_list]
  by_cases h : a = b
  · rw [h]; simp
  · rw [decide_eq_false h]; simpa using h
/-- What is told of sectors, each with bytes in a row of its own; all of it lies in blocks from B on. -/
structure DSecs (w : World) (v : Value) (ls : List (Nat × List UInt8)) (B : Nat) (us : List Value) : Prop where
  len : us.length = ls.length
  row : w.ownsRow B 79 2 v ls.length (tCells (ls.map (·.1)) us)
  own : ∀ (i : Nat) (x : Nat × List UInt8) (u : Value), ls[i]? = some x → us[i]? = some u → OwnM w 5 1 u x.2.length (x.2.map U8)
  new : ∀ (i : Nat) (u : Value), us[i]? = some u → ∀ k, u.ownBlock = some k → B ≤ k
theorem DSecs.nil (w : World) (B : Nat) : DSecs w (.slice none 0 0) [] B [] := ⟨rfl, World.ownsRow_nil _ _ _ _, fun i x u h => by simp at h, fun i u h => by simp at h⟩
theorem DSecs.kept {w w' : World} {v : Value} {ls : List (Nat × List UInt8)} {B : Nat} {us : List Value} {S : Nat → Prop} (h : DSecs w v ls B us) (k : Kept S w w') (hs : ∀ i, B ≤ i → i < w.heap.size → ¬ S i) : DSecs w' v ls B us :=
  ⟨h.len, own_kept h.row k (fun i hi => hs i (h.row.lt i hi).1 (h.row.lt i hi).2), fun i x u hx hu => (h.own i x u hx hu).kept k (fun j hj => hs j (h.new i u hu j hj) ((h.own i x u hx hu).lt hj)), h.new⟩
theorem DSecs.same {w w' : World} {v : Value} {ls : List (Nat × List UInt8)} {B : Nat} {us : List Value} (h : DSecs w v ls B us) (k : Same w w') : DSecs w' v ls B us := h.kept k (fun _ _ _ h => h)
theorem DSecs.snoc {w w1 : World} {l u v' : Value} {ls : List (Nat × List UInt8)} {n : Nat} {b : List UInt8} {B : Nat} {us : List Value} (h : DSecs w l ls B us)
    (hu : OwnM w 5 1 u b.length (b.map U8)) (hn : ∀ k, u.ownBlock = some k → B ≤ k) (hg : w.grownBy w1 l.ownBlock) (ho : w1.ownsRow B 79 2 v' (ls.length + 1) (tCells (ls.map (·.1)) us ++ [.int .i64 (n : Nat), u])) : DSecs w1 v' (ls ++ [(n, b)]) B (us ++ [u]) := by
  have k : Kept (fun i => l.ownBlock = some i) w w1 := (Kept.refl (fun i => l.ownBlock = some i) w).grown hg (fun k hk _ => hk)
  have hk : ∀ (x : Value) (y : List UInt8), OwnM w 5 1 x y.length (y.map U8) → OwnM w1 5 1 x y.length (y.map U8) := fun x y hx => hx.kept k (fun i hi e => by
    rcases hx.ex with ⟨rfl, _⟩ | ⟨q, cap, cur, fz, rfl, hq, _⟩
    · simp [Value.ownBlock] at hi
    · simp [Value.ownBlock] at hi
      subst hi
      have h9 := OwnM.of h.row
      exact h9.apart hq (by decide) e)
  have hat : ∀ (i : Nat) (x : Value), (us ++ [u])[i]? = some x → us[i]? = some x ∧ i < us.length ∨ i = us.length ∧ x = u := fun i x hx => by
    rw [List.getElem?_append] at hx
    split at hx
    next h => exact Or.inl ⟨hx, h⟩
    next h =>
      right
      obtain ⟨h1, h2⟩ := List.getElem?_eq_some_iff.1 hx
      have h3 : i - us.length = 0 := by simp at h1; omega
      refine ⟨by omega, ?_⟩
      rw [← h2]
      simp [h3]
  refine ⟨by simp [h.len], ?_, fun i x y hx hy => ?_, fun i y hy => ?_⟩
  · rw [List.map_append, List.map_cons, List.map_nil, tCells_snoc _ _ _ _ (by rw [List.length_map, h.len]), List.length_append]
    exact ho
  · rcases hat i y hy with ⟨a, a2⟩ | ⟨a, a2⟩
    · have hl : i < ls.length := by rw [← h.len]; exact a2
      rw [List.getElem?_append_left hl] at hx
      exact hk _ _ (h.own i x y hx a)
    · subst a2
      rw [a, h.len, List.getElem?_append_right (Nat.le_refl _), Nat.sub_self] at hx
      simp at hx
      subst hx
      exact hk _ _ hu
  · rcases hat i y hy with ⟨a, a2⟩ | ⟨a, a2⟩
    · exact h.new i y a
    · subst a2
      exact hn
/-- The document's own cells behind its Take. -/
theorem DL.took {g : Nat} {s : PSt} {last : List UInt8} {w : World} {vs vl vl' : Value} {us : List Value} (h : DL g s last w vs vl us) (hl : OwnM w 5 1 vl' s.img.length (s.img.map U8)) :
    DL g s.took s.img (((w.setCell ⟨g, 5, none⟩ vl').setCell ⟨g, 6, none⟩ (.int .i64 (s.chunks.length : Nat))).setCell ⟨g, 7, none⟩ (.bool s.shut)) vs vl' us ∧ Kept (fun k => k = g) w (((w.setCell ⟨g, 5, none⟩ vl').setCell ⟨g, 6, none⟩ (.int .i64 (s.chunks.length : Nat))).setCell ⟨g, 7, none⟩ (.bool s.shut)) := by
  have k : Kept (fun k => k = g) w (((w.setCell ⟨g, 5, none⟩ vl').setCell ⟨g, 6, none⟩ (.int .i64 (s.chunks.length : Nat))).setCell ⟨g, 7, none⟩ (.bool s.shut)) := (((Kept.refl (fun k => k = g) w).setCell (p := ⟨g, 5, none⟩) rfl _).setCell (p := ⟨g, 6, none⟩) rfl _).setCell (p := ⟨g, 7, none⟩) rfl _
  have hb := blk_set (j := 7) (blk_set (j := 6) (blk_set (j := 5) h.box vl') (.int .i64 (s.chunks.length : Nat))) (.bool s.shut)
  refine ⟨⟨by rw [hb]; rfl, h.len, h.row.kept k (fun i hi e => by subst e; exact h.row.apart h.box (by decide) hi), fun i c u hc hu => ?_, hl.kept k (fun i hi e => by subst e; exact hl.apart h.box (by decide) hi), PSt.took_ok h.ok⟩, k⟩
  have := h.chunks i c u hc hu
  exact this.kept k (fun j hj e => by subst e; exact this.apart h.box (by decide) hj)
set_option maxHeartbeats 8000000 in
set_option maxRecDepth 100000 in
theorem d_take {g : Nat} {s : PSt} {w : World} {vs vl : Value} {us : List Value} (h : DL g s s.last w vs vl us) :
    Calls Tryd.prog 24 #[.pointer (some ⟨g, 0, none⟩)] w fun e w' => ∃ v ts vl', e = .returned v ∧ DSecs w' v (s.secs s.sectors) w.heap.size ts ∧ DL g s.took s.took.last w' vs vl' us ∧ Kept (fun k => k = g) w w' ∧ ∀ k, vl'.ownBlock = some k → w.heap.size ≤ k := by
  obtain ⟨i0, hi, hz0, hz1, hz2⟩ := info_parts infoSec
  obtain ⟨i1, hj, hy0, hy1, hy2⟩ := info_parts info5
  have HI := hidden (d_image h)
  have HD := hidden h
  have ok := h.ok
  have HOK := hidden ok
  have hs0 := ok.s0
  have hs1 := ok.s1
  have hc1 := ok.c1
  have hroom : s.len ≤ 262144 := ok.room
  have HBX : Hid (∀ W, Same w W → W.heap[g]? = some (.cells (DCells s vs vl) 73 (0, 0))) := hidden (fun W k => (h.same k).box)
  obtain ⟨va, vc, hvs, _⟩ := h.row.form
  obtain ⟨la, lc, hvl, _⟩ := h.last.form
  rw [PSt.last_len ok] at hvl
  have HBL := hidden (Bt.ownM h.last)
  have HQ := hidden (show s.size ≤ 4096 ∧ s.sectors ≤ 64 ∧ s.len ≤ 262144 ∧ 512 ≤ s.size from ⟨hs1, hc1, hroom, hs0⟩)
  subst hvs
  subst hvl
  clear h ok hs0 hs1 hc1 hroom
  go_enter Tryd.func24, Tryd.ntmps24
  go_wp2_with (go_at_call 19; refine (HI.out).mono ?_; rintro e w1 ⟨bi, rfl, hbi, him, k1⟩; have HIM := hidden him; have K1 := hidden k1; have HBI := hidden (show w.heap.size ≤ bi ∧ bi < w1.heap.size from ⟨hbi, blk_lt him⟩); clear him k1 hbi)
  go_loopw [4, 5, 6] (fun lv nv sv wr => ∃ (k : Nat) (ts : List Value), nv = .int .i64 k ∧ k ≤ s.sectors ∧ DSecs wr lv (s.secs k) w1.heap.size ts ∧ Same w1 wr) (fun _ nv _ wr => s.sectors - (intOf nv).toNat)
  case atStart => exact ⟨0, [], rfl, Nat.zero_le _, DSecs.nil _ _, Kept.refl _ _⟩
  case round =>
    obtain ⟨k, ts, rfl, hk, hT, hs⟩ := hrel
    have HT := hidden hT
    have HS := hidden hs
    have C0 : ∀ m, (wr.drewN m).cell? ⟨g, 0, none⟩ = some (.int .i64 s.size) := fun m => blk_cell (HBX.out _ (K1.out.trans (hs.drewN m)))
    have C5 : ∀ m, (wr.drewN m).cell? ⟨g, 5, none⟩ = some (.slice la s.len lc) := fun m => blk_cell (HBX.out _ (K1.out.trans (hs.drewN m)))
    have C1 : wr.cell? ⟨g, 1, none⟩ = some (.int .i64 s.sectors) := blk_cell (HBX.out _ (K1.out.trans hs))
    by_cases h1 : k < s.sectors
    · obtain ⟨F, hF⟩ : ∃ F, k * s.size = F := ⟨_, rfl⟩
      obtain ⟨T, hTT⟩ : ∃ T, (k + 1) * s.size = T := ⟨_, rfl⟩
      have hFT : T = F + s.size := by rw [← hF, ← hTT, Nat.add_mul]; omega
      have hTL : T ≤ s.len := by
        rw [← hTT]
        have := Nat.mul_le_mul_right s.size h1
        unfold PSt.len
        rw [Nat.mul_comm s.size]
        exact this
      have hq1 := HQ.out.1
      have hq2 := HQ.out.2.2.1
      have hq3 := HQ.out.2.2.2
      have w1' : IntKind.i64.wrap ((k : Int) * (s.size : Int)) = (F : Int) := by rw [← hF, IntKind.wrap_i64]; have : ((k * s.size : Nat) : Int) = (k : Int) * (s.size : Int) := Int.natCast_mul _ _; omega
      have w2' : IntKind.i64.wrap ((k : Int) + 1) = (k : Int) + 1 := by rw [IntKind.wrap_i64]; have := HQ.out.2.1; omega
      have w3' : IntKind.i64.wrap (((k : Int) + 1) * (s.size : Int)) = (T : Int) := by
        rw [← hTT, IntKind.wrap_i64]
        have : (((k + 1) * s.size : Nat) : Int) = ((k : Int) + 1) * (s.size : Int) := by rw [Int.natCast_mul, Int.natCast_add]; rfl
        omega
      have HBT : Hid (∀ W, Same w1 W → Bt W (.slice (some ⟨bi, 0, none⟩) s.len s.len) s.img) := hidden (fun W kk => bt_row (blk_kept kk (fun h => h) HIM.out) (PSt.img_len HOK.out))
      obtain ⟨hsF, hbF⟩ := (HBT.out w1 (Kept.refl _ _)).subA (i := F) (j := T) (by omega) hTL (by omega) (F : Int) (T : Int) rfl rfl
      obtain ⟨pl, hsL, hbL⟩ := HBL.out.sub (i := F) (j := T) (by omega) hTL (F : Int) (T : Int) rfl rfl
      rw [Nat.zero_add] at hsF
      simp only [Nat.zero_add] at hbF
      have hsec : ∀ b : List UInt8, (b.take T).drop F = secB s.size b k := fun b => by
        rw [take_drop_sub _ _ _ (by omega), show T - F = s.size by omega]
        unfold secB
        rw [hF]
      rw [hsec] at hbF
      rw [hsec] at hbL
      rw [show T - F = s.size by omega] at hbF hsF hsL hbL
      have HSS : Hid (s.secs (k + 1) = s.secs k ++ (if s.diff k then [(k, secB s.size s.img k)] else [])) := hidden rfl
      have hsl := secB_len (show s.img.length = s.size * s.sectors from PSt.img_len HOK.out) k h1
      have htF := fun m => (hbF (wr.drewN m) (hs.drewN m)).text
      have htL := fun m => (hbL (wr.drewN m) (K1.out.trans (hs.drewN m))).text
      have HBF := hidden hbF
      have HLN := hidden hsl
      have hcmp : ((⟨(secB s.size s.img k).toArray⟩ : ByteArray).toList == (⟨(secB s.size s.last k).toArray⟩ : ByteArray).toList) = !s.diff k := by
        rw [ba_beqD]
        unfold PSt.diff
        by_cases h : secB s.size s.img k = secB s.size s.last k
        · rw [decide_eq_true h, decide_eq_false (fun q => q h)]; rfl
        · rw [decide_eq_false h, decide_eq_true h]; rfl
      have q0 : (0 : Int) ≤ (k : Int) := Int.natCast_nonneg _
      have q1 : (k : Int) < (s.sectors : Int) := by omega
      obtain ⟨sec, hse⟩ : ∃ sec, secB s.size s.img k = sec := ⟨_, rfl⟩
      obtain ⟨sl2, hse2⟩ : ∃ sl2, secB s.size s.last k = sl2 := ⟨_, rfl⟩
      rw [hse] at HBF HLN HSS hcmp
      simp only [hse] at htF
      rw [hse2] at hcmp
      simp only [hse2] at htL
      obtain ⟨A, hA⟩ : ∃ A : ByteArray, (⟨sec.toArray⟩ : ByteArray) = A := ⟨_, rfl⟩
      obtain ⟨B, hB⟩ : ∃ B : ByteArray, (⟨sl2.toArray⟩ : ByteArray) = B := ⟨_, rfl⟩
      rw [hA, hB] at hcmp
      simp only [hA] at htF
      simp only [hB] at htL
      have HSL := hidden (show (s.secs k).length ≤ 64 from by have := s.secs_le k; have := HQ.out.2.1; omega)
      clear hbF hbL hsec hsl hse hse2 hA hB hF hTT hT hs hFT hTL hq2
      cases hd : s.diff k with
      | false =>
        rw [hd] at hcmp HSS
        clear hd
        go_wp2
        go_quiet (fail)
        go_wp2
        go_quiet (fail)
        go_wp2
        go_roundw
        case rel => exact ⟨k + 1, ts, by go_num, by omega, by rw [HSS.out]; simpa using HT.out.same ((Kept.refl _ _).drewN _), HS.out.drewN _⟩
        case measure => simp [intOf]; omega
      | true =>
        rw [hd] at hcmp HSS
        clear hd
        obtain ⟨a0, c0, hlv⟩ := own_form HT.out.row
        subst hlv
        have HMD : Hid (∀ m, ((wr.drewN m).alloc (.cells #[] 5)).ownsRow w1.heap.size 5 1 (.slice (some ⟨wr.heap.size, 0, none⟩) 0 0) 0 []) := hidden (fun m => by
          have := World.ownsRow_made (base := w1.heap.size) (e := 5) (size := 1) (wr.drewN m) #[] 0 (HS.out.drewN m).size (by decide) (by decide)
          simpa using this)
        have KA : Hid (∀ m, Same wr ((wr.drewN m).alloc (.cells #[] 5))) := hidden (fun m => ((Kept.refl _ wr).drewN m).alloc _)
        have m0 : Hid (0 + s.size ≤ maxLen) := hidden (by unfold maxLen; omega)
        have m00 : Hid ((0 + s.size) * 1 ≤ 140737488355328) := hidden (by omega)
        have m1 : Hid ((s.secs k).length + 1 ≤ maxLen) := hidden (by have := HSL.out; unfold maxLen; omega)
        have m2 : Hid (((s.secs k).length + 1) * 32 ≤ 140737488355328) := hidden (by have := HSL.out; omega)
        have HSZ := hidden HS.out.size
        have UC := hidden (U8_all sec)
        go_wp2
        go_quiet (fail)
        go_wp2
        go_quiet (fail)
        go_wp2_with (first
          | (at_builtin; refine wpList_append_any rfl _ _ 32 rfl w1.heap.size 5 i1 (.int .u8 0) 1 1 Tryd.underlying32 hj hy0 hy1 hy2 rfl (by decide) _ 0 0 [] rfl (HMD.out _) (some ⟨bi, F, none⟩) s.size (s.len - F) (sec.map U8) rfl (by rw [List.length_map, HLN.out, Nat.mul_one]) ((HBF.out _ (HS.out.trans (KA.out _))).lies) UC.out m0.out m00.out (Nat.le_trans HSZ.out (KA.out _).size) ?_; intro a1 e1 w3 ho1 hg1; rw [Nat.zero_add, List.nil_append] at ho1; have k3 : Same wr w3 := (KA.out _).grown hg1 (fun q hk hl => by have e' : some wr.heap.size = some q := hk; simp at e'; omega); have K3 := hidden k3; have HO1 := hidden ho1; clear ho1 hg1 k3)
          | (at_builtin; refine wpList_append_where (P := Tryd.prog) rfl _ _ 40 rfl w1.heap.size 79 i0 _ 2 32 Tryd.underlying40 hi hz0 hz1 hz2 rfl (by decide) a0 (s.secs k).length c0 _ rfl ((own_kept HT.out.row K3.out (fun _ _ h => h)).alloc _) (some ⟨w3.heap.size, 0, none⟩) 1 1 [.int .i64 (k : Nat), .slice a1 s.size e1] rfl rfl (sec_lies _ _ _) (fun u hu => by simp at hu; rcases hu with rfl | rfl <;> rfl) m1.out m2.out (Nat.le_trans (Nat.le_trans HSZ.out K3.out.size) (same_alloc _ _).size) ?_; intro a' cap' w5 hown hgrow _))
        go_roundw
        case rel =>
          refine ⟨k + 1, ts ++ [.slice a1 s.size e1], by go_num, by omega, ?_, ?_⟩
          · rw [HSS.out]
            refine DSecs.snoc (HT.out.same (K3.out.alloc _)) ?_ (fun q hq => (HO1.out.lt q hq).1) hgrow hown
            have := (OwnM.of HO1.out).same (same_alloc w3 (.cells #[.int .i64 (k : Nat), .slice a1 s.size e1] 79))
            rw [HLN.out]
            exact this
          · exact ((HS.out.trans K3.out).alloc _).grown hgrow (fun q e hk => by have := (HT.out.row.lt q e).1; omega)
        case measure => simp [intOf]; omega
    · have he : k = s.sectors := by omega
      subst he
      have q1 : ¬ (s.sectors : Int) < (s.sectors : Int) := by omega
      have Bx := HBX.out _ (K1.out.trans hs)
      have X3 : wr.cell? ⟨g, 3, none⟩ = some (.slice va us.length vc) := blk_cell Bx
      have X4 : wr.cell? ⟨g, 4, none⟩ = some (.bool s.shut) := blk_cell Bx
      have X5 : wr.cell? ⟨g, 5, none⟩ = some (.slice la s.len lc) := blk_cell Bx
      have X6 : wr.cell? ⟨g, 6, none⟩ = some (.int .i64 s.tslots) := blk_cell Bx
      have X7 : wr.cell? ⟨g, 7, none⟩ = some (.bool s.tshut) := blk_cell Bx
      have f5 : wr.frozen? ⟨g, 5, none⟩ = false := blk_free Bx
      have f6 : wr.frozen? ⟨g, 6, none⟩ = false := blk_free Bx
      have f7 : wr.frozen? ⟨g, 7, none⟩ = false := blk_free Bx
      have HDr := hidden (HD.out.same (K1.out.trans hs))
      have KW := hidden (K1.out.trans hs)
      have hul : us.length = s.chunks.length := HD.out.len
      have HIR := hidden (ownM_made wr s.img bi (by rw [PSt.img_len HOK.out]; have := HQ.out.2.2.1; unfold maxLen; omega) (blk_kept hs (fun h => h) HIM.out))
      have hlr := PSt.img_len HOK.out
      have HLR := hidden hlr
      have HUL := hidden hul
      clear Bx hT hs C0 C5 hul hlr
      go_wp2
      go_region_law fail
      all_goals
        go_wp2
        go_returns
        have e := HDr.out.took (vl' := .slice (some ⟨bi, 0, none⟩) s.len s.len) (by have h5 := HIR.out; rw [HLR.out] at h5 ⊢; exact h5)
        rw [← HUL.out] at e
        have hgl : g < w1.heap.size := Nat.lt_of_lt_of_le (blk_lt HD.out.box) K1.out.size
        have kk := (HT.out.kept e.2 (fun i hi _ e => by omega))
        have hbk : ∀ k, (Value.slice (some ⟨bi, 0, none⟩) s.len s.len).ownBlock = some k → w.heap.size ≤ k := fun k hk => by have := HBI.out.1; simp [Value.ownBlock] at hk; omega
        have kw : Kept (fun k => k = g) w _ := (KW.out.mono (fun _ _ q => q.elim)).trans e.2
        have ksz := K1.out.size
        have hlast : s.took.last = s.img := PSt.took_last HOK.out
        have kk2 : DSecs _ _ (s.secs s.sectors) w.heap.size ts := ⟨kk.len, own_mono kk.row ksz, kk.own, fun i u hu q hq => Nat.le_trans ksz (kk.new i u hu q hq)⟩
        rw [hlast]
        first
          | exact ⟨_, ts, _, rfl, kk2, e.1, kw, hbk⟩
          | exact ⟨_, ts, _, rfl, kk2.same ((Kept.refl _ _).drew), e.1.same ((Kept.refl _ _).drew), kw.drew, hbk⟩
end Go.Proofs.YtafdkfieajdeiaaDoor
namespace Go.Proofs.YtafdkfieajdeiaaDoor
open Go.RowKit
set_option linter.unusedVariables false
set_option linter.unusedSimpArgs false
theorem DSecs.at {w : World} {v : Value} {ls : List (Nat × List UInt8)} {B : Nat} {us : List Value} (h : DSecs w v ls B us) {i : Nat} (hi : i < ls.length) :
    ∃ b c u, v = .slice (some ⟨b, 0, none⟩) ls.length c ∧ B ≤ b ∧ us[i]? = some u ∧ w.cell? ⟨b, i * 2, none⟩ = some (.int .i64 (ls[i].1 : Nat)) ∧ w.cell? ⟨b, i * 2 + 1, none⟩ = some u ∧ OwnM w 5 1 u ls[i].2.length (ls[i].2.map U8) := by
  have hu : i < us.length := by rw [h.len]; exact hi
  rcases h.row.2 with ⟨_, h0⟩ | ⟨b, c, cur, rfl, hB, _⟩
  · omega
  · obtain ⟨c1, c2⟩ := tCells_at (ls.map (·.1)) us i ls[i].1 us[i] (by rw [List.getElem?_map, List.getElem?_eq_getElem hi]; rfl) (List.getElem?_eq_getElem hu)
    have d1 := h.row.cells (g := b) rfl _ _ c1
    have d2 := h.row.cells (g := b) rfl _ _ c2
    rw [add_none, Nat.zero_add] at d1 d2
    exact ⟨b, c, us[i], rfl, hB, List.getElem?_eq_getElem hu, d1, d2, h.own i _ _ (List.getElem?_eq_getElem hi) (List.getElem?_eq_getElem hu)⟩
/-- The blocks of the first sectors' bytes. -/
def upTo (us : List Value) (i : Nat) (k : Nat) : Prop := ∃ j u, j < i ∧ us[j]? = some u ∧ u.ownBlock = some k
set_option maxHeartbeats 4000000 in
set_option maxRecDepth 100000 in
theorem sectors_any (ls : List (Nat × List UInt8)) (x y : Value) (B C : Nat) (us ts : List Value) (w : World) (hx : TSecs w x ls B us) (hy : DSecs w y ls C ts) (hBC : ∀ k, upTo us us.length k → k < C) (hn : ls.length ≤ 64) (hl : ∀ l ∈ ls, l.2.length ≤ 4096 ∧ l.1 ≤ 64) :
    Calls Tryd.prog 23 #[x, y] w fun e w' => e = .returned (.bool true) ∧ Kept (upTo us us.length) w w' := by
  obtain ⟨xa, xc, rfl⟩ := own_form hx.row
  obtain ⟨ya, yc, rfl⟩ := own_form hy.row
  have HX := hidden hx
  have HY := hidden hy
  have HBC := hidden hBC
  have HLl := hidden hl
  have hul := hx.len
  have HUL := hidden hul
  clear hx hy hBC hl hul
  obtain ⟨n, hnn⟩ : ∃ n, ls.length = n := ⟨_, rfl⟩
  have HN := hidden hnn
  rw [hnn] at hn ⊢
  clear hnn
  go_enter Tryd.func23, Tryd.ntmps23
  go_wp2
  go_loopw [5] (fun iv wr => ∃ i : Nat, i ≤ n ∧ iv = .int .i64 i ∧ Kept (upTo us i) w wr) (fun iv wr => n - (intOf iv).toNat)
  case atStart => exact ⟨0, Nat.zero_le _, rfl, Kept.refl _ _⟩
  case round =>
    obtain ⟨i, hi, rfl, hK⟩ := hrel
    obtain ⟨wo, rfl⟩ : ∃ z, z = wr := ⟨_, rfl⟩
    by_cases h1 : i < n
    · have hil : i < ls.length := by rw [HN.out]; exact h1
      obtain ⟨b1, c1, g, hv1, n1, s1, hg, hB, hus⟩ := HX.out.at hil
      obtain ⟨b2, c2, u2, hv2, hb2, hts, n2, s2, hm2⟩ := HY.out.at hil
      simp only [Value.slice.injEq] at hv1 hv2
      obtain ⟨rfl, _, rfl⟩ := hv1
      obtain ⟨rfl, _, rfl⟩ := hv2
      have hlt : ∀ k, upTo us i k → k < C := fun k ⟨j, u, hj, hu, e⟩ => HBC.out k ⟨j, u, (List.getElem?_eq_some_iff.1 hu).1, hu, e⟩
      have nb1 : ¬ upTo us i b1 := fun ⟨j, u, hj, hu, e⟩ => by
        have hjl : j < ls.length := by omega
        obtain ⟨q, e1, _, _⟩ := (HX.out.own j _ u (List.getElem?_eq_getElem hjl) hu).blk
        obtain ⟨q2, _, rfl, hq⟩ := (HX.out.own j _ u (List.getElem?_eq_getElem hjl) hu).lies
        simp [Value.ownBlock] at e
        subst e
        exact own_apart HX.out.row hq (by decide) rfl
      have nb2 : ¬ upTo us i b2 := fun h => by have := hlt _ h; omega
      have ng : ¬ upTo us i g := fun ⟨j, u, hj, hu, e⟩ => HX.out.apart j i u _ hj hu hus (by rw [e]; rfl)
      have hm2k := hm2.kept hK (fun k hk h => by have := hlt _ h; have := HY.out.new i u2 hts k hk; omega)
      have hgk := blk_kept hK ng hg
      have hll := HLl.out ls[i] (List.getElem_mem hil)
      have n1k := hK.cell nb1 n1
      have s1k := hK.cell nb1 s1
      have n2k := hK.cell nb2 n2
      have s2k := hK.cell nb2 s2
      obtain ⟨L, hL⟩ : ∃ L, ls[i].2 = L := ⟨_, rfl⟩
      obtain ⟨N, hN⟩ : ∃ N, ls[i].1 = N := ⟨_, rfl⟩
      rw [hL] at s1k hgk hm2k hll hus
      rw [hN] at n1k n2k hll
      obtain ⟨M, hM⟩ : ∃ M, L.length = M := ⟨_, rfl⟩
      rw [hM] at s1k hll hus
      obtain ⟨a2, e2, hu2, _⟩ := hm2k.form
      rw [hM] at hu2
      subst hu2
      have HS : Hid (∀ W, Same wo W → Calls Tryd.prog 17 #[.slice (some ⟨g, 0, none⟩) M M, .slice a2 M e2] W fun e w' => e = .returned (.bool true) ∧ Same W w') := hidden (fun W kk => by
        have := sameB_any _ _ L L W (bt_row (blk_kept kk (fun h => h) hgk) hM) ((Bt.ownM hm2k).same kk) (by omega) (by omega)
        rw [decide_eq_true rfl] at this
        exact this)
      have x1 : ∀ V : Later wo, V.world.cell? ⟨b1, i * 2, none⟩ = some (.int .i64 (N : Nat)) := fun V => V.kept.cell (fun h => h) n1k
      have x2 : ∀ V : Later wo, V.world.cell? ⟨b1, i * 2 + 1, none⟩ = some (.slice (some ⟨g, 0, none⟩) M M) := fun V => V.kept.cell (fun h => h) s1k
      have x3 : ∀ V : Later wo, V.world.cell? ⟨b2, i * 2, none⟩ = some (.int .i64 (N : Nat)) := fun V => V.kept.cell (fun h => h) n2k
      have x4 : ∀ V : Later wo, V.world.cell? ⟨b2, i * 2 + 1, none⟩ = some (.slice a2 M e2) := fun V => V.kept.cell (fun h => h) s2k
      have q0 : (0 : Int) ≤ (i : Int) := Int.natCast_nonneg _
      have q1 : (i : Int) < (n : Int) := by omega
      have qn : ((N : Int) != (N : Int)) = false := by simp
      have HK := hidden hK
      have HG := hidden hgk
      have HB1 : Hid (b1 ≠ g) := hidden (fun e => by subst e; exact own_apart HX.out.row hg (by decide) rfl)
      have HS1 := hidden s1k
      have HUS := hidden hus
      have HM := hidden hM
      have HLM := hidden hll
      clear hK n1 s1 hg hB hus hts n2 s2 hm2 hlt nb1 nb2 ng hm2k hgk hll n1k s1k n2k s2k hL hN hM hb2
      go_wp2
      refine region_later (by kernel_rfl) (by kernel_rfl) ?_
      repeat (go_big_quiet_step ((first | (go_at_call 17; exact later_calls _ (HS.out _ (Later.kept _))))))
      refine wpQuiet_nil ?_
      rintro V ⟨LV, hE⟩
      have hV : Hid (Same wo V) := hidden (by rw [hE]; exact LV.kept)
      clear hE LV x1 x2 x3 x4
      go_wp2
      go_loopw [6] (fun kv wr => ∃ (k : Nat) (l : List UInt8), kv = .int .i64 k ∧ k ≤ M ∧ l.length = M ∧ wr.heap[g]? = some (.cells (l.map U8).toArray 5 (0, 0)) ∧ Kept (fun q => q = g) V wr) (fun kv wr => M - (intOf kv).toNat)
      case atStart => exact ⟨0, L, rfl, Nat.zero_le _, HM.out, blk_kept hV.out (fun h => h) HG.out, Kept.refl _ _⟩
      case round =>
        obtain ⟨k, l, rfl, hk, hl, hg, hs⟩ := hrel
        have z1 : wr.cell? ⟨b1, i * 2 + 1, none⟩ = some (.slice (some ⟨g, 0, none⟩) M M) := hs.cell HB1.out (hV.out.cell (fun h => h) HS1.out)
        by_cases h2 : k < M
        · obtain ⟨zb, hz⟩ : ∃ zb, l[k]? = some zb := ⟨_, List.getElem?_eq_getElem (by omega)⟩
          have z2 : wr.cell? ⟨g, k, none⟩ = some (U8 zb) := by rw [blk_cell hg]; simp [hz]
          have z3 : wr.frozen? ⟨g, k, none⟩ = false := blk_free hg
          have hset := blk_set (j := k) hg (U8 9)
          rw [bytes_set] at hset
          have p0 : (0 : Int) ≤ (k : Int) := Int.natCast_nonneg _
          have p1 : (k : Int) < (M : Int) := by omega
          have hmb := HLM.out.1
          have HSET := hidden (show (wr.setCell ⟨g, k, none⟩ (.int .u8 9)).heap[g]? = some (.cells ((l.set k 9).map U8).toArray 5 (0, 0)) from hset)
          have HSs := hidden hs
          have HLN := hidden hl
          clear hset hg hs hl hz
          go_wp2
          go_roundw
          case rel => exact ⟨k + 1, l.set k 9, by go_num, by omega, by rw [List.length_set]; exact HLN.out, HSET.out, HSs.out.setCell (p := ⟨g, k, none⟩) rfl _⟩
          case measure => simp [intOf]; omega
        · have he : k = M := by omega
          subst he
          have p1 : ¬ (k : Int) < (k : Int) := by omega
          have kk : Kept (upTo us (i + 1)) w wr := by
            refine ((HK.out.trans' hV.out (fun _ _ e => e.elim)).mono (fun q _ ⟨j, u, hj, hu, e⟩ => ⟨j, u, by omega, hu, e⟩)).trans (hs.mono (fun q _ e => ?_))
            subst e
            exact ⟨i, _, by omega, HUS.out, rfl⟩
          have KK := hidden kk
          clear hs hg kk hl
          go_wp2
          go_roundw
          case rel => exact ⟨i + 1, by omega, by go_num, KK.out⟩
          case measure => simp [intOf]; omega
    · have he : i = n := by omega
      subst he
      have q1 : ¬ (i : Int) < (i : Int) := by omega
      have HK := hidden hK
      have hui : us.length = i := by rw [HUL.out, HN.out]
      clear hK
      go_wp2
      go_returns
      exact ⟨rfl, by first | exact HK.out | (rw [hui]; exact HK.out)⟩
end Go.Proofs.YtafdkfieajdeiaaDoor
namespace Go.Proofs.YtafdkfieajdeiaaDoor
open Go.RowKit
set_option linter.unusedVariables false
set_option linter.unusedSimpArgs false
structure PX (g x : Nat) (s : PSt) (w : World) (vs vl : Value) (us : List Value) : Prop where
  pw : PW g s w
  ti : s.TI
  dl : DL x s s.last w vs vl us
  ap : ∀ k, pS g w k → ¬ dA x vs vl us k
/-- The blocks that a call of both may write. -/
def pxW (g x : Nat) (w : World) (vs : Value) (k : Nat) : Prop := pS g w k ∨ k = x ∨ vs.ownBlock = some k
/-- What a call of both leaves: nothing else has turned, and they have no elder blocks than before. -/
structure PXS (g x : Nat) (w : World) (vs vl : Value) (us : List Value) (w' : World) (vs' vl' : Value) (us' : List Value) : Prop where
  kept : Kept (pxW g x w vs) w w'
  p : ∀ k, k < w.heap.size → pS g w' k → pS g w k
  d : ∀ k, k < w.heap.size → dA x vs' vl' us' k → dA x vs vl us k
  v : ∀ k, k < w.heap.size → vs'.ownBlock = some k → vs.ownBlock = some k
theorem DL.below {g : Nat} {s : PSt} {last : List UInt8} {w : World} {vs vl : Value} {us : List Value} (h : DL g s last w vs vl us) {k : Nat} (hk : dA g vs vl us k) : k < w.heap.size := by
  rcases hk with rfl | e | e | ⟨u, hu, e⟩
  · exact blk_lt h.box
  · exact h.row.lt e
  · exact h.last.lt e
  · obtain ⟨q, hq⟩ := List.mem_iff_getElem?.1 hu
    have hql : q < s.chunks.length := by rw [← h.len]; exact (List.getElem?_eq_some_iff.1 hq).1
    exact (h.chunks q _ u (List.getElem?_eq_getElem hql) hq).lt e
theorem PXS.refl (g x : Nat) (w : World) (vs vl : Value) (us : List Value) : PXS g x w vs vl us w vs vl us := ⟨Kept.refl _ _, fun _ _ h => h, fun _ _ h => h, fun _ _ h => h⟩
theorem PXS.trans {g x : Nat} {a b c : World} {v1 l1 v2 l2 v3 l3 : Value} {u1 u2 u3 : List Value} (h : PXS g x a v1 l1 u1 b v2 l2 u2) (k : PXS g x b v2 l2 u2 c v3 l3 u3) : PXS g x a v1 l1 u1 c v3 l3 u3 := by
  have hz := h.kept.size
  refine ⟨h.kept.trans' k.kept (fun i hi e => ?_), fun i hi hp => h.p i hi (k.p i (by omega) hp), fun i hi hp => h.d i hi (k.d i (by omega) hp), fun i hi hp => h.v i hi (k.v i (by omega) hp)⟩
  rcases e with e | e | e
  · exact Or.inl (h.p i hi e)
  · exact Or.inr (Or.inl e)
  · exact Or.inr (Or.inr (h.v i hi e))
theorem PX.same {g x : Nat} {s : PSt} {w w' : World} {vs vl : Value} {us : List Value} (h : PX g x s w vs vl us) (k : Same w w') : PX g x s w' vs vl us ∧ PXS g x w vs vl us w' vs vl us :=
  ⟨⟨h.pw.same k, h.ti, h.dl.same k, fun i hi => h.ap i ((pS_same h.pw.lt k i).1 hi)⟩, ⟨k.mono (fun _ _ e => e.elim), fun i _ hi => (pS_same h.pw.lt k i).1 hi, fun _ _ h => h, fun _ _ h => h⟩⟩
/-- The program's call: what it leaves of both, ahead of the document's call. -/
theorem PX.left {g x : Nat} {s t : PSt} {w w' : World} {vs vl : Value} {us : List Value} (h : PX g x s w vs vl us) (k : Turns g w w') (p : PW g t w') : DL x s s.last w' vs vl us ∧ PXS g x w vs vl us w' vs vl us ∧ ∀ i, pS g w' i → ¬ dA x vs vl us i :=
  ⟨h.dl.kept k.kept (fun i hd hp => h.ap i hp hd), ⟨k.kept.mono (fun _ _ e => Or.inl e), k.row, fun _ _ h => h, fun _ _ h => h⟩, fun i hp hd => by
    by_cases hl : i < w.heap.size
    · exact h.ap i (k.row i hl hp) hd
    · exact hl (h.dl.below hd)⟩
/-- The document's call behind it. -/
theorem PX.right {g x : Nat} {t : PSt} {w w' : World} {vs vl vs' vl' : Value} {us us' : List Value} {last : List UInt8} {s : PSt} (hd : DL x s last w vs vl us) (p : PW g t w) (ap : ∀ i, pS g w i → ¬ dA x vs vl us i) (ti : t.TI) (k : Kept (fun i => i = x ∨ vs.ownBlock = some i) w w') (hd' : DL x t t.last w' vs' vl' us') (hn : ∀ i, i < w.heap.size → dA x vs' vl' us' i → dA x vs vl us i) (hv : ∀ i, i < w.heap.size → vs'.ownBlock = some i → vs.ownBlock = some i) : PX g x t w' vs' vl' us' ∧ PXS g x w vs vl us w' vs' vl' us' := by
  have hno : ∀ i, pS g w i → ¬ (i = x ∨ vs.ownBlock = some i) := fun i hp e => ap i hp (by
    rcases e with e | e
    · exact Or.inl e
    · exact Or.inr (Or.inl e))
  have hps := fun i => pS_kept p k (hno g (Or.inl rfl)) i
  refine ⟨⟨p.kept k hno, ti, hd', fun i hp hq => ?_⟩, ⟨k.mono (fun _ _ e => Or.inr e), fun i _ hp => (hps i).1 hp, hn, hv⟩⟩
  have hp1 := (hps i).1 hp
  exact ap i hp1 (hn i (p.below hp1) hq)
end Go.Proofs.YtafdkfieajdeiaaDoor
namespace Go.Proofs.YtafdkfieajdeiaaDoor
open Go.RowKit
set_option linter.unusedVariables false
set_option linter.unusedSimpArgs false
/-- What the law's step of both leaves. -/
def Stepped (g x : Nat) (w : World) (vs vl : Value) (us : List Value) (w' : World) : Prop := ∃ (t : PSt) (vs' vl' : Value) (us' : List Value), PX g x t w' vs' vl' us' ∧ PXS g x w vs vl us w' vs' vl' us'
theorem PX.stepped {g x : Nat} {s : PSt} {w w' : World} {vs vl : Value} {us : List Value} (h : PX g x s w vs vl us) (k : Same w w') : Stepped g x w vs vl us w' := ⟨s, vs, vl, us, (h.same k).1, (h.same k).2⟩
theorem Stepped.ahead {g x : Nat} {s : PSt} {w w1 w' : World} {vs vl : Value} {us : List Value} (h : PX g x s w vs vl us) (k : Same w w1) (h2 : Stepped g x w1 vs vl us w') : Stepped g x w vs vl us w' := by
  obtain ⟨t, a, b, c, h3, h4⟩ := h2
  exact ⟨t, a, b, c, h3, (h.same k).2.trans h4⟩
set_option maxHeartbeats 4000000 in
set_option maxRecDepth 100000 in
theorem step_slots {g x : Nat} {s : PSt} {w : World} {vs vl : Value} {us : List Value} (h : PX g x s w vs vl us) (N off len : Int) (bv : Value) :
    Calls Tryd.prog 16 #[.pointer (some ⟨g, 0, none⟩), .pointer (some ⟨x, 0, none⟩), .agg #[.int .i64 5, .int .i64 N, bv, .int .i64 off, .int .i64 len]] w fun e w' => e = .returned (.bool true) ∧ Stepped g x w vs vl us w' := by
  have H := hidden h
  have HP := hidden (fun W (k : Same w W) => p_slots (h.pw.same k))
  have HD := hidden (fun W (k : Same w W) => d_slots (h.dl.same k))
  have hmany : s.slots.length ≤ 32768 := by rw [PSt.slots, slotsFrom_len]; exact h.pw.ok.many
  have HSS : Hid (∀ W u v, SlM W u s.slots → SlM W v s.slots → Calls Tryd.prog 20 #[u, v] W fun e w' => e = .returned (.bool true) ∧ Same W w') := hidden (fun W u v h1 h2 => sameSlots_any u v s.slots W h1 h2 (by omega))
  have KA := hidden (same_alloc w (.cells #[.int .i64 5, .int .i64 N, bv, .int .i64 off, .int .i64 len] 36))
  clear h hmany
  go_enter Tryd.func16, Tryd.ntmps16
  go_wp2_with (first
    | (go_at_call 21; refine (HP.out _ KA.out).mono ?_; rintro e w1 ⟨u1, rfl, hb1, k1⟩; have K1 := hidden (KA.out.trans k1); have B1 := hidden hb1; clear hb1 k1)
    | (go_at_call 22; refine (HD.out _ K1.out).mono ?_; rintro e w2 ⟨u2, rfl, hb2, k2⟩; have K2 := hidden (K1.out.trans k2); have B2 := hidden hb2; have B1' := hidden (B1.out.same k2); clear hb2 k2)
    | (go_at_call 20; refine (HSS.out _ _ _ B1'.out B2.out).mono ?_; rintro e w3 ⟨rfl, k3⟩))
  go_returns
  exact ⟨rfl, H.out.stepped (K2.out.trans k3)⟩
theorem seal_ti' {s : PSt} (h : s.TI) : (if s.shut then s else s.seal).TI := by
  split
  · exact h
  · exact PSt.seal_ti h
theorem seal_last' (s : PSt) : (if s.shut then s else s.seal).last = s.last := by split <;> rfl
set_option maxHeartbeats 4000000 in
set_option maxRecDepth 100000 in
theorem step_seal {g x : Nat} {s : PSt} {w : World} {vs vl : Value} {us : List Value} (h : PX g x s w vs vl us) (N off len : Int) (bv : Value) :
    Calls Tryd.prog 16 #[.pointer (some ⟨g, 0, none⟩), .pointer (some ⟨x, 0, none⟩), .agg #[.int .i64 7, .int .i64 N, bv, .int .i64 off, .int .i64 len]] w fun e w' => e = .returned (.bool true) ∧ Stepped g x w vs vl us w' := by
  have H := hidden h
  have KA := hidden (same_alloc w (.cells #[.int .i64 7, .int .i64 N, bv, .int .i64 off, .int .i64 len] 36))
  have HA := hidden (H.out.same KA.out).1
  have HP := hidden (p_seal HA.out.pw)
  have HD := hidden (fun W (hd : DL x s s.last W vs vl us) => d_seal hd)
  obtain ⟨E, hE⟩ : ∃ E : Int, (if s.shut then 6 else 0) = E := ⟨_, rfl⟩
  rw [hE] at HP HD
  have qe : (E == E) = true := by simp
  clear h hE
  go_enter Tryd.func16, Tryd.ntmps16
  go_wp2_with (first
    | (go_at_call 15; refine (HP.out).mono ?_; rintro e w1 ⟨rfl, hp1, t1⟩; have L1 := hidden (HA.out.left t1 hp1); have P1 := hidden hp1; clear hp1 t1)
    | (go_at_call 46; refine (HD.out _ L1.out.1).mono ?_; rintro e w2 ⟨rfl, hd2, k2⟩; have R2 := hidden (PX.right L1.out.1 P1.out L1.out.2.2 (seal_ti' HA.out.ti) (k2.mono (fun _ _ e => Or.inl e)) (by rw [seal_last']; exact hd2) (fun _ _ h => h) (fun _ _ h => h)); clear hd2 k2))
  go_returns
  exact ⟨rfl, Stepped.ahead H.out KA.out ⟨_, _, _, _, R2.out.1, L1.out.2.1.trans R2.out.2⟩⟩
set_option maxHeartbeats 4000000 in
set_option maxRecDepth 100000 in
theorem step_left {g x : Nat} {s : PSt} {w : World} {vs vl : Value} {us : List Value} (h : PX g x s w vs vl us) (N off len : Int) (bv : Value) :
    Calls Tryd.prog 16 #[.pointer (some ⟨g, 0, none⟩), .pointer (some ⟨x, 0, none⟩), .agg #[.int .i64 2, .int .i64 N, bv, .int .i64 off, .int .i64 len]] w fun e w' => e = .returned (.bool true) ∧ Stepped g x w vs vl us w' := by
  have H := hidden h
  have KA := hidden (same_alloc w (.cells #[.int .i64 2, .int .i64 N, bv, .int .i64 off, .int .i64 len] 36))
  obtain ⟨va, vc, hvf, _⟩ := h.dl.row.form
  obtain ⟨W0, hW0⟩ : ∃ W0, w.alloc (.cells #[.int .i64 2, .int .i64 N, bv, .int .i64 off, .int .i64 len] 36) = W0 := ⟨_, rfl⟩
  have HA := hidden (H.out.same KA.out).1
  rw [hW0] at HA KA
  have HL := hidden (fun (V : Later W0) => later_calls (v := .int .i64 (s.left : Nat)) V (p_left (HA.out.pw.same V.kept)))
  have HL2 := hidden (fun (V : Later W0) => later_calls (v := .int .i64 (s.left : Nat)) V (d_left (HA.out.dl.same V.kept)))
  have HMk := hidden (fun (V : Later W0) => later_calls (v := .int .i64 (s.chunks.length : Nat)) V ((p_mark (HA.out.pw.same V.kept)).mono (fun e w' ⟨h1, h2⟩ => ⟨h1, h2 ▸ Kept.refl _ _⟩)))
  have l3 : ∀ V : Later W0, V.world.cell? ⟨x, 3, none⟩ = some (.slice va s.chunks.length vc) := fun V => by rw [blk_cell (HA.out.dl.same V.kept).box, ← h.dl.len, ← hvf]; rfl
  have c0 : W0.cell? ⟨w.heap.size, 0, none⟩ = some (.int .i64 2) := by rw [← hW0]; exact blk_cell (blk_new w _)
  have q1 : ((s.left : Int) == (s.left : Int)) = true := by simp
  have q2 : ((s.chunks.length : Int) == (s.chunks.length : Int)) = true := by simp
  clear h hvf
  go_enter Tryd.func16, Tryd.ntmps16
  go_wp2
  clear c0 hW0
  refine region_later (by kernel_rfl) (by kernel_rfl) ?_
  repeat (go_big_quiet_step ((first | (go_at_call 32; exact HL.out _) | (go_at_call 44; exact HL2.out _) | (go_at_call 33; exact HMk.out _))))
  refine wpQuiet_nil ?_
  rintro V ⟨LV, hE⟩
  have hV : Hid (Same W0 V) := hidden (by rw [hE]; exact LV.kept)
  clear hE LV l3
  go_wp2
  go_returns
  exact ⟨rfl, H.out.stepped (KA.out.trans hV.out)⟩
end Go.Proofs.YtafdkfieajdeiaaDoor
namespace Go.Proofs.YtafdkfieajdeiaaDoor
open Go.RowKit
set_option linter.unusedVariables false
set_option linter.unusedSimpArgs false
set_option maxHeartbeats 1000000 in
set_option maxRecDepth 100000 in
theorem step_image {g x : Nat} {s : PSt} {w : World} {vs vl : Value} {us : List Value} (h : PX g x s w vs vl us) (hT : Tab w) (kd N off len : Int) (bv : Value) (b1 : (kd == 1) = false) (b2 : (kd == 2) = false) (b3 : (kd == 3) = false) (b4 : (kd == 4) = false) (b5 : (kd == 5) = false) (b7 : (kd == 7) = false) (b8 : (kd == 8) = false) :
    Calls Tryd.prog 16 #[.pointer (some ⟨g, 0, none⟩), .pointer (some ⟨x, 0, none⟩), .agg #[.int .i64 kd, .int .i64 N, bv, .int .i64 off, .int .i64 len]] w fun e w' => e = .returned (.bool true) ∧ Stepped g x w vs vl us w' := by
  have H := hidden h
  have HD := hidden (fun W (k : Same w W) => d_image (h.dl.same k))
  have hlen := PSt.img_len h.pw.ok
  have hl : s.len ≤ 262144 := h.pw.ok.room
  obtain ⟨I, hI⟩ : ∃ I, s.img = I := ⟨_, rfl⟩
  obtain ⟨L, hL⟩ : ∃ L, s.len = L := ⟨_, rfl⟩
  rw [hI, hL] at hlen
  rw [hL] at hl
  rw [hI, hL] at HD
  have HP : Hid (∀ W, Same w W → Calls Tryd.prog 18 #[.pointer (some ⟨g, 0, none⟩)] W fun e w' => ∃ b, e = .returned (.slice (some ⟨b, 0, none⟩) L L) ∧ w'.heap[b]? = some (.cells (I.map U8).toArray 5 (0, 0)) ∧ Same W w') := hidden (fun W k => (p_image (h.pw.same k) (hT.same k)).mono fun e w' ⟨h1, h2, h3⟩ => ⟨W.heap.size, by rw [← hL]; exact h1, by rw [← hI]; exact h2, h3⟩)
  have HSB : Hid (∀ W u v, Bt W u I → Bt W v I → Calls Tryd.prog 17 #[u, v] W fun e w' => e = .returned (.bool true) ∧ Same W w') := hidden (fun W u v h1 h2 => by
    have h5 := sameB_any u v I I W h1 h2 (by omega) (by omega)
    rw [decide_eq_true rfl] at h5
    exact h5)
  have HLN := hidden hlen
  have KA := hidden (same_alloc w (.cells #[.int .i64 kd, .int .i64 N, bv, .int .i64 off, .int .i64 len] 36))
  clear h hT hlen hl hI hL
  go_enter Tryd.func16, Tryd.ntmps16
  go_wp2_with (first
    | (go_at_call 18; refine (HP.out _ KA.out).mono ?_; rintro e w1 ⟨b0, rfl, hb1, k1⟩; have K1 := hidden (KA.out.trans k1); have B1 := hidden (bt_row hb1 HLN.out); clear hb1 k1)
    | (go_at_call 19; refine (HD.out _ K1.out).mono ?_; rintro e w2 ⟨b, rfl, _, hb2, k2⟩; have K2 := hidden (K1.out.trans k2); have B2 := hidden (bt_row hb2 HLN.out); have B1' := hidden (B1.out.same k2); clear hb2 k2)
    | (go_at_call 17; refine (HSB.out _ _ _ B1'.out B2.out).mono ?_; rintro e w3 ⟨rfl, k3⟩))
  go_returns
  exact ⟨rfl, H.out.stepped (K2.out.trans k3)⟩
end Go.Proofs.YtafdkfieajdeiaaDoor
namespace Go.Proofs.YtafdkfieajdeiaaDoor
open Go.RowKit
set_option linter.unusedVariables false
set_option linter.unusedSimpArgs false
theorem PX.past {g x : Nat} {t : PSt} {W0 W2 W3 : World} {vs vl vs' vl' : Value} {us us' : List Value} {S : Nat → Prop} (h : PX g x t W2 vs' vl' us') (q : PXS g x W0 vs vl us W2 vs' vl' us') (k : Kept S W2 W3) (h1 : ∀ i, S i → W0.heap.size ≤ i) (h2 : ∀ i, pS g W2 i → ¬ S i) (h3 : ∀ i, dA x vs' vl' us' i → ¬ S i) : PX g x t W3 vs' vl' us' ∧ PXS g x W0 vs vl us W3 vs' vl' us' := by
  have hps := fun i => pS_kept h.pw k (h2 g (Or.inl rfl)) i
  exact ⟨⟨h.pw.kept k h2, h.ti, h.dl.kept k h3, fun i hi => h.ap i ((hps i).1 hi)⟩, ⟨q.kept.trans' k (fun i hi e => by have := h1 i e; omega), fun i hi hp => q.p i hi ((hps i).1 hp), q.d, q.v⟩⟩
theorem dA_take {x i n : Nat} {vs vl vl' : Value} {us : List Value} (hn : ∀ k, vl'.ownBlock = some k → n ≤ k) (hi : i < n) (q : dA x vs vl' us i) : dA x vs vl us i := by
  rcases q with e | e | e | e
  · exact Or.inl e
  · exact Or.inr (Or.inl e)
  · have := hn i e
    omega
  · exact Or.inr (Or.inr (Or.inr e))
theorem dA_back {x i n : Nat} {vs vs' vl : Value} {us us' : List Value} (h4 : ∀ k, vs'.ownBlock = some k → vs.ownBlock = some k ∨ n ≤ k) (h5 : ∀ u ∈ us', u ∈ us) (hi : i < n) (q : dA x vs' vl us' i) : dA x vs vl us i := by
  rcases q with e | e | e | ⟨u, hu, e⟩
  · exact Or.inl e
  · exact Or.inr (Or.inl ((h4 i e).resolve_right (by omega)))
  · exact Or.inr (Or.inr (Or.inl e))
  · exact Or.inr (Or.inr (Or.inr ⟨u, h5 u hu, e⟩))
set_option maxHeartbeats 4000000 in
set_option maxRecDepth 100000 in
theorem step_take {g x : Nat} {s : PSt} {w : World} {vs vl : Value} {us : List Value} (h : PX g x s w vs vl us) (hT : Tab w) (N off len : Int) (bv : Value) :
    Calls Tryd.prog 16 #[.pointer (some ⟨g, 0, none⟩), .pointer (some ⟨x, 0, none⟩), .agg #[.int .i64 3, .int .i64 N, bv, .int .i64 off, .int .i64 len]] w fun e w' => e = .returned (.bool true) ∧ Stepped g x w vs vl us w' := by
  have H := hidden h
  have KA := hidden (same_alloc w (.cells #[.int .i64 3, .int .i64 N, bv, .int .i64 off, .int .i64 len] 36))
  have HA := hidden (H.out.same KA.out).1
  have HP := hidden (p_take HA.out.pw (hT.same KA.out) h.ti)
  have HD := hidden (fun W (hd : DL x s s.last W vs vl us) => d_take hd)
  have hxl : x < (w.alloc (.cells #[.int .i64 3, .int .i64 N, bv, .int .i64 off, .int .i64 len] 36)).heap.size := blk_lt HA.out.dl.box
  have HXL := hidden hxl
  have hsc := h.pw.ok.c1
  have hok := h.pw.ok
  have HS : Hid (∀ (u v : Value) (B C : Nat) (u1 u2 : List Value) (W : World), TSecs W u (s.secs s.sectors) B u1 → DSecs W v (s.secs s.sectors) C u2 → (∀ k, upTo u1 u1.length k → k < C) → Calls Tryd.prog 23 #[u, v] W fun e w' => e = .returned (.bool true) ∧ Kept (upTo u1 u1.length) W w') := hidden (fun u v B C u1 u2 W h1 h2 h3 => sectors_any _ u v B C u1 u2 W h1 h2 h3 (Nat.le_trans (s.secs_le _) hsc) (fun l hl => by
    obtain ⟨a, b⟩ := s.secs_mem _ l hl
    rw [b]
    have := hok.s1
    refine ⟨?_, by omega⟩
    unfold secB
    rw [List.length_take]
    omega))
  clear h hT hxl hsc hok
  go_enter Tryd.func16, Tryd.ntmps16
  go_wp2_with (first
    | (go_at_call 14; refine (HP.out).mono ?_; rintro e w1 ⟨tv, tu, rfl, hts, hp1, t1, hps⟩; have L1 := hidden (HA.out.left t1 hp1); have P1 := hidden hp1; have TS := hidden hts; have T1 := hidden t1; have PS1 := hidden hps; clear hts hp1 t1 hps)
    | (go_at_call 24; refine (HD.out _ L1.out.1).mono ?_; rintro e w2 ⟨dv, du, vl2, rfl, hds, hd2, k2, hn2⟩; have R2 := hidden (PX.right L1.out.1 P1.out L1.out.2.2 (PSt.took_ti HA.out.pw.ok) (k2.mono (fun _ _ e => Or.inl e)) hd2 (fun i hi q => dA_take hn2 hi q) (fun _ _ h => h)); have DS := hidden hds; have TS2 := hidden (TS.out.past k2 HXL.out); have N2 := hidden hn2; have K2 := hidden k2; clear hds hd2 k2 hn2)
    | (go_at_call 23; refine (HS.out _ _ _ _ _ _ _ TS2.out DS.out (fun k ⟨j, u, _, hu, e⟩ => (TS.out.below j u hu k e).2)).mono ?_; rintro e w3 ⟨rfl, k3⟩))
  go_returns
  have hblk : ∀ k, upTo tu tu.length k → (w.alloc (.cells #[.int .i64 3, .int .i64 N, bv, .int .i64 off, .int .i64 len] 36)).heap.size ≤ k ∧ k < w1.heap.size := fun k ⟨j, u, _, hu, e⟩ => TS.out.below j u hu k e
  have hx1 := K2.out
  have fin := PX.past R2.out.1 (L1.out.2.1.trans R2.out.2) k3 (fun i hi => (hblk i hi).1) (fun i hp hi => by
    have h1 := (pS_kept P1.out hx1 (fun e => L1.out.2.2 g (Or.inl rfl) (Or.inl e)) i).1 hp
    have h2 := HA.out.pw.below (PS1.out i h1)
    have := (hblk i hi).1
    omega) (fun i hd hi => by
    have hb := hblk i hi
    rcases hd with e | e | e | e
    · have := HXL.out; omega
    · have := HA.out.dl.below (Or.inr (Or.inl e)); omega
    · have := N2.out i e; omega
    · have := HA.out.dl.below (Or.inr (Or.inr (Or.inr e))); omega)
  exact ⟨rfl, Stepped.ahead H.out KA.out ⟨_, _, _, _, fin.1, fin.2⟩⟩
set_option maxHeartbeats 4000000 in
set_option maxRecDepth 100000 in
theorem step_backW {g x : Nat} {s t : PSt} {w : World} {vs vl : Value} {us : List Value} (h : PX g x s w vs vl us) (N off len : Int) (bv : Value) (E : Int) (ti : t.TI)
    (HP : ∀ W, PW g s W → Calls Tryd.prog 31 #[.pointer (some ⟨g, 0, none⟩), .int .i64 N] W fun e w' => e = .returned (.int .i64 E) ∧ PW g t w' ∧ Turns g W w')
    (HD : ∀ W, DL x s s.last W vs vl us → Calls Tryd.prog 47 #[.pointer (some ⟨x, 0, none⟩), .int .i64 N] W fun e w' => e = .returned (.int .i64 E) ∧ ∃ vs' us', DL x t t.last w' vs' vl us' ∧ Kept (fun k => k = x) W w' ∧ (∀ k, vs'.ownBlock = some k → vs.ownBlock = some k ∨ W.heap.size ≤ k) ∧ ∀ u ∈ us', u ∈ us) :
    Calls Tryd.prog 16 #[.pointer (some ⟨g, 0, none⟩), .pointer (some ⟨x, 0, none⟩), .agg #[.int .i64 8, .int .i64 N, bv, .int .i64 off, .int .i64 len]] w fun e w' => e = .returned (.bool true) ∧ Stepped g x w vs vl us w' := by
  have H := hidden h
  obtain ⟨W0, hW0⟩ : ∃ W0, w.alloc (.cells #[.int .i64 8, .int .i64 N, bv, .int .i64 off, .int .i64 len] 36) = W0 := ⟨_, rfl⟩
  have KA : Hid (Same w W0) := hidden (by rw [← hW0]; exact same_alloc _ _)
  have HB : Hid (W0.heap[w.heap.size]? = some (.cells #[.int .i64 8, .int .i64 N, bv, .int .i64 off, .int .i64 len] 36)) := hidden (by rw [← hW0]; exact blk_new w _)
  have HA := hidden (H.out.same KA.out).1
  have HPh := hidden (HP W0.drew (HA.out.pw.same ((Kept.refl _ _).drew)))
  have HDh := hidden HD
  have c0 : W0.cell? ⟨w.heap.size, 0, none⟩ = some (.int .i64 8) := blk_cell HB.out
  have c1 : W0.cell? ⟨w.heap.size, 1, none⟩ = some (.int .i64 N) := blk_cell HB.out
  have qe : (E == E) = true := by simp
  have HTI := hidden ti
  clear h HP HD ti
  go_enter Tryd.func16, Tryd.ntmps16
  go_wp2
  go_region_law (first
    | (refine step_call rfl 31 #[.pointer (some ⟨g, 0, none⟩), .int .i64 N] (fun u W => u = .int .i64 E ∧ PW g t W ∧ Turns g W0.drew W) (by go_simp <;> rfl) (HPh.out.mono (fun e w' ⟨h1, h2, h3⟩ => ⟨_, h1, rfl, h2, h3⟩)) ?_; rintro u y1 ⟨rfl, hp1, t1⟩; have L1 := hidden ((HA.out.same ((Kept.refl (fun _ => False) _).drew)).1.left t1 hp1); have P1 := hidden hp1; have hbx := blk_kept t1.kept (fun e => by have h9 := HA.out.pw.below ((pS_same HA.out.pw.lt ((Kept.refl (fun _ => False) W0).drew) _).1 e); have h8 := H.out.pw.below ((pS_same H.out.pw.lt KA.out _).1 ((pS_same HA.out.pw.lt ((Kept.refl (fun _ => False) W0).drew) _).1 e)); omega) HB.out; have z1 : y1.cell? ⟨w.heap.size, 1, none⟩ = some (.int .i64 N) := blk_cell hbx; clear hp1 t1 hbx)
    | (refine step_call rfl 47 #[.pointer (some ⟨x, 0, none⟩), .int .i64 N] (fun u W => u = .int .i64 E ∧ Stepped g x W0.drew vs vl us W) (by go_simp <;> rfl) ((HDh.out _ L1.out.1).mono (fun e w' ⟨h1, vs', us', h2, h3, h4, h5⟩ => ⟨_, h1, rfl, by have R2 := PX.right L1.out.1 P1.out L1.out.2.2 HTI.out (h3.mono (fun _ _ e => Or.inl e)) h2 (fun i hi q => dA_back h4 h5 hi q) (fun i hi e => (h4 i e).resolve_right (by omega)); exact ⟨_, _, _, _, R2.1, L1.out.2.1.trans R2.2⟩⟩)) ?_; rintro u y2 ⟨rfl, hst⟩; have ST := hidden hst; clear hst)
    | fail "none")
  all_goals
    go_wp2
    go_returns
    exact ⟨rfl, Stepped.ahead H.out KA.out (Stepped.ahead HA.out ((Kept.refl (fun _ => False) W0).drew) ST.out)⟩
theorem step_back {g x : Nat} {s : PSt} {w : World} {vs vl : Value} {us : List Value} (h : PX g x s w vs vl us) (N off len : Int) (bv : Value) :
    Calls Tryd.prog 16 #[.pointer (some ⟨g, 0, none⟩), .pointer (some ⟨x, 0, none⟩), .agg #[.int .i64 8, .int .i64 N, bv, .int .i64 off, .int .i64 len]] w fun e w' => e = .returned (.bool true) ∧ Stepped g x w vs vl us w' := by
  by_cases hm : (s.tslots : Int) ≤ N ∧ N ≤ s.chunks.length
  · obtain ⟨m, rfl⟩ := Int.eq_ofNat_of_zero_le (show 0 ≤ N by omega)
    have h0 : s.tslots ≤ m := by omega
    have h1 : m ≤ s.chunks.length := by omega
    refine step_backW h m off len bv 0 (PSt.back_ti h.ti m h0 h1) (fun W hp => p_backYes hp m h0 h1) (fun W hd => (d_backYes hd m h0 h1).mono ?_)
    rintro e w' ⟨e1, vs', d, k, n⟩
    exact ⟨e1, vs', us.take m, by rw [PSt.back_last m h0]; exact d, k, fun q hq => Or.inr (n q hq), fun u hu => List.mem_of_mem_take hu⟩
  · exact step_backW h N off len bv 1 h.ti (fun W hp => (p_backNo hp N hm).mono (fun e w' ⟨e1, k⟩ => ⟨e1, hp.same k, Turns.same hp.lt k⟩)) (fun W hd => (d_backNo hd N hm).mono (fun e w' ⟨e1, k⟩ => ⟨e1, vs, us, hd.same k, k.mono (fun _ _ e => e.elim), fun q hq => Or.inl hq, fun u hu => hu⟩))
end Go.Proofs.YtafdkfieajdeiaaDoor
namespace Go.Proofs.YtafdkfieajdeiaaDoor
open Go.RowKit
set_option linter.unusedVariables false
set_option linter.unusedSimpArgs false
/-- A row of bytes, whatever they are, that may be written. -/
def Bump (w : World) (b n : Nat) : Prop := ∃ cur : Array Value, w.heap[b]? = some (.cells cur 5 (0, 0)) ∧ ∀ j, j < n → ∃ y : Int, cur[j]? = some (.int .u8 y)
theorem Bump.own {w : World} {B : Nat} {v : Value} {l : List UInt8} (h : w.ownsRow B 5 1 v l.length (l.map U8)) (hn : 0 < l.length) : ∃ b c, v = .slice (some ⟨b, 0, none⟩) l.length c ∧ B ≤ b ∧ b < w.heap.size ∧ Bump w b l.length := by
  have hh := h
  rcases h.2 with ⟨_, h0⟩ | ⟨b, c, cur, rfl, hB, hb, _⟩
  · omega
  · refine ⟨b, c, rfl, hB, blk_lt hb, cur, hb, fun j hj => ?_⟩
    have := hh.cells (g := b) rfl j (U8 l[j]) (by simp [hj])
    rw [add_none, Nat.zero_add, blk_cell hb] at this
    exact ⟨_, this⟩
theorem Bump.cell {w : World} {b n j : Nat} (h : Bump w b n) (hj : j < n) : ∃ y : Int, w.cell? ⟨b, j, none⟩ = some (.int .u8 y) ∧ w.frozen? ⟨b, j, none⟩ = false ∧ ∀ z : Int, Bump (w.setCell ⟨b, j, none⟩ (.int .u8 z)) b n := by
  obtain ⟨cur, hb, hc⟩ := h
  obtain ⟨y, hy⟩ := hc j hj
  refine ⟨y, by rw [blk_cell hb]; exact hy, blk_free hb, fun z => ⟨_, blk_set hb _, fun i hi => ?_⟩⟩
  obtain ⟨yi, hyi⟩ := hc i hi
  by_cases e : j = i
  · subst e
    have hs := (Array.getElem?_eq_some_iff.1 hyi).1
    exact ⟨z, by simp [hs]⟩
  · exact ⟨yi, by rw [Array.getElem?_setIfInBounds_ne e]; exact hyi⟩
theorem Bump.same {w w' : World} {b n : Nat} (h : Bump w b n) (k : Same w w') : Bump w' b n := by
  obtain ⟨cur, hb, hc⟩ := h
  exact ⟨cur, blk_kept k (fun h => h) hb, hc⟩
set_option maxHeartbeats 4000000 in
set_option maxRecDepth 100000 in
theorem step_read {g x : Nat} {s : PSt} {w : World} {vs vl : Value} {us : List Value} (h : PX g x s w vs vl us) (N off len : Int) (bv : Value) :
    Calls Tryd.prog 16 #[.pointer (some ⟨g, 0, none⟩), .pointer (some ⟨x, 0, none⟩), .agg #[.int .i64 4, .int .i64 N, bv, .int .i64 off, .int .i64 len]] w fun e w' => e = .returned (.bool true) ∧ Stepped g x w vs vl us w' := by
  have H := hidden h
  obtain ⟨W0, hW0⟩ : ∃ W0, w.alloc (.cells #[.int .i64 4, .int .i64 N, bv, .int .i64 off, .int .i64 len] 36) = W0 := ⟨_, rfl⟩
  have KA : Hid (Same w W0) := hidden (by rw [← hW0]; exact same_alloc _ _)
  have HB : Hid (W0.heap[w.heap.size]? = some (.cells #[.int .i64 4, .int .i64 N, bv, .int .i64 off, .int .i64 len] 36)) := hidden (by rw [← hW0]; exact blk_new w _)
  have HA := hidden (H.out.same KA.out).1
  have HP := hidden (p_readO HA.out.pw off len)
  have HD := hidden (fun W (hd : DL x s s.last W vs vl us) => d_read hd off len)
  have c0 : W0.cell? ⟨w.heap.size, 0, none⟩ = some (.int .i64 4) := blk_cell HB.out
  have c3 : W0.cell? ⟨w.heap.size, 3, none⟩ = some (.int .i64 off) := blk_cell HB.out
  have c4 : W0.cell? ⟨w.heap.size, 4, none⟩ = some (.int .i64 len) := blk_cell HB.out
  have hdl : ((s.read off len).getD []).length ≤ 262144 := by
    cases hr : s.read off len with
    | none => simp
    | some d =>
      unfold PSt.read at hr
      obtain ⟨z, hz, rfl⟩ := Option.map_eq_some_iff.1 hr
      obtain ⟨i, _, h2⟩ := zip_at (List.mem_of_find?_eq_some hz)
      obtain ⟨hi, h3⟩ := List.getElem?_eq_some_iff.1 h2
      have h4 := body_take_succ s.chunks i hi
      have h5 := body_take_le s.chunks (i + 1)
      have h6 := h.pw.ok.b1
      have h7 := h.pw.ok.room
      rw [s.bs_len] at h6
      rw [h3] at h4
      simp only [Option.getD_some]
      omega
  obtain ⟨E, hE⟩ : ∃ E : Int, (if (s.read off len).isSome then 0 else 130) = E := ⟨_, rfl⟩
  obtain ⟨D, hD⟩ : ∃ D, (s.read off len).getD [] = D := ⟨_, rfl⟩
  rw [hE, hD] at HP
  rw [hE, hD] at HD
  rw [hD] at hdl
  have HSB : Hid (∀ W u v, Bt W u D → Bt W v D → Calls Tryd.prog 17 #[u, v] W fun e w' => e = .returned (.bool true) ∧ Same W w') := hidden (fun W u v h1 h2 => by
    have h5 := sameB_any u v D D W h1 h2 (by omega) (by omega)
    rw [decide_eq_true rfl] at h5
    exact h5)
  have qe : (E == E) = true := by simp
  obtain ⟨M, hM⟩ : ∃ M, D.length = M := ⟨_, rfl⟩
  have HM := hidden hM
  have HML := hidden (show M ≤ 262144 by omega)
  have HLE := hidden KA.out.size
  clear h hE hD hdl hM
  go_enter Tryd.func16, Tryd.ntmps16
  go_wp2_with (first
    | (go_at_call 30; refine (HP.out).mono ?_; rintro e w1 ⟨u1, rfl, ho1, k1⟩; have O1 := hidden ho1; obtain ⟨ua, uc, rfl⟩ := own_form ho1; rw [HM.out]; have K1 := hidden k1; have B1 := blk_kept k1 (fun h => h) HB.out; have d3 : w1.cell? ⟨w.heap.size, 3, none⟩ = some (.int .i64 off) := blk_cell B1; have d4 : w1.cell? ⟨w.heap.size, 4, none⟩ = some (.int .i64 len) := blk_cell B1; clear ho1 k1 B1)
    | (go_at_call 45; refine (HD.out _ (HA.out.dl.same K1.out)).mono ?_; rintro e w2 ⟨u2, rfl, hb2, k2⟩; obtain ⟨va, vc, rfl, _⟩ := hb2.form; have B2 := hidden hb2; have O2 := hidden (own_kept O1.out k2 (fun _ _ h => h)); have K2 := hidden (K1.out.trans k2); clear hb2 k2)
    | (go_at_call 17; refine (HSB.out _ _ _ (by have := Bt.own O2.out; rw [HM.out] at this; exact this) B2.out).mono ?_; rintro e w3 ⟨rfl, k3⟩; have O3 := hidden (own_kept O2.out k3 (fun _ _ h => h)); have K3 := hidden (K2.out.trans k3); clear k3))
  have HBu : Hid (0 < M → ∃ b, ua = some ⟨b, 0, none⟩ ∧ W0.heap.size ≤ b ∧ Bump w3 b M) := hidden (fun h0 => by
    obtain ⟨b, c, e, h1, _, h2⟩ := Bump.own O3.out (by rw [HM.out]; exact h0)
    rw [HM.out] at e h2
    cases e
    exact ⟨b, rfl, h1, h2⟩)
  go_loopw [18] (fun iv wr => ∃ i : Nat, iv = .int .i64 i ∧ i ≤ M ∧ (∀ b, ua = some ⟨b, 0, none⟩ → 0 < M → Bump wr b M) ∧ Kept (fun k => 0 < M ∧ ua = some ⟨k, 0, none⟩) w3 wr) (fun iv wr => M - (intOf iv).toNat)
  case atStart => exact ⟨0, rfl, Nat.zero_le _, fun b e h0 => by
    obtain ⟨b', e', _, h2⟩ := HBu.out h0
    rw [e] at e'
    cases e'
    exact h2, Kept.refl _ _⟩
  case round =>
    obtain ⟨i, rfl, hi, hW, hK⟩ := hrel
    by_cases h1 : i < M
    · obtain ⟨b, rfl, hb, _⟩ := HBu.out (by omega)
      obtain ⟨y, z1, z2, z3⟩ := (hW b rfl (by omega)).cell h1
      have hmb := HML.out
      have p0 : (0 : Int) ≤ (i : Int) := Int.natCast_nonneg _
      have p1 : (i : Int) < (M : Int) := by omega
      have Z3 := hidden z3
      have HKK := hidden hK
      clear hW hK z3
      go_wp2
      go_roundw
      case rel => exact ⟨i + 1, by go_num, by omega, fun b' e _ => by cases e; exact Z3.out _, HKK.out.setCell (p := ⟨b, i, none⟩) ⟨by omega, rfl⟩ _⟩
      case measure => simp [intOf]; omega
    · have he : i = M := by omega
      subst he
      have p1 : ¬ (i : Int) < (i : Int) := by omega
      have HKK := hidden hK
      clear hW hK
      go_wp2
      go_returns
      have R := HA.out.same K3.out
      have fin := PX.past R.1 R.2 HKK.out (fun k ⟨h0, e⟩ => by
        obtain ⟨b', e', hb, _⟩ := HBu.out h0
        rw [e] at e'
        cases e'
        exact hb) (fun k hp ⟨h0, e⟩ => by
        obtain ⟨b', e', hb, _⟩ := HBu.out h0
        rw [e] at e'
        cases e'
        have := HA.out.pw.below ((pS_same HA.out.pw.lt K3.out k).1 hp)
        omega) (fun k hd ⟨h0, e⟩ => by
        obtain ⟨b', e', hb, _⟩ := HBu.out h0
        rw [e] at e'
        cases e'
        have := HA.out.dl.below hd
        omega)
      exact ⟨rfl, Stepped.ahead H.out KA.out ⟨_, _, _, _, fin.1, fin.2⟩⟩
end Go.Proofs.YtafdkfieajdeiaaDoor
namespace Go.Proofs.YtafdkfieajdeiaaDoor
open Go.RowKit
set_option linter.unusedVariables false
set_option linter.unusedSimpArgs false
theorem Bt.kept0 {S : Nat → Prop} {w w' : World} {v : Value} {l : List UInt8} (h : Bt w v l) (k : Kept S w w') (hv : ∀ i, 0 < l.length → v.ownBlock = some i → ¬ S i) : Bt w' v l := by
  obtain ⟨ao, cap, rfl, h1, h2⟩ := h
  refine ⟨ao, cap, rfl, h1, fun h0 => ?_⟩
  obtain ⟨b, off, rfl, h3⟩ := h2 h0
  exact ⟨b, off, rfl, fun j hj => k.cell (hv b h0 rfl) (h3 j hj)⟩
theorem own_bt {w : World} {B M : Nat} {a : Option Addr} {c : Nat} {l : List UInt8} (hM : l.length = M) (h : w.ownsRow B 5 1 (.slice a M c) M (l.map U8)) : Bt w (.slice a M c) l := by
  subst hM
  exact Bt.own h
theorem cell_len {w : World} {p : Addr} {a : Option Addr} {n M c : Nat} (hM : n = M) (h : w.cell? p = some (.slice a n c)) : w.cell? p = some (.slice a M c) := by
  subst hM
  exact h
theorem dA_two {x i : Nat} {vs vl : Value} {us : List Value} (h : i = x ∨ vs.ownBlock = some i) : dA x vs vl us i := by
  rcases h with e | e
  · exact Or.inl e
  · exact Or.inr (Or.inl e)
theorem dA_app {x i n : Nat} {vs vs' vl : Value} {us us' : List Value} (h4 : ∀ k, vs'.ownBlock = some k → vs.ownBlock = some k ∨ n ≤ k) (h5 : ∀ u ∈ us', u ∈ us ∨ ∀ k, u.ownBlock = some k → n ≤ k) (hi : i < n) (q : dA x vs' vl us' i) : dA x vs vl us i := by
  rcases q with e | e | e | ⟨u, hu, e⟩
  · exact Or.inl e
  · exact Or.inr (Or.inl ((h4 i e).resolve_right (by omega)))
  · exact Or.inr (Or.inr (Or.inl e))
  · rcases h5 u hu with h | h
    · exact Or.inr (Or.inr (Or.inr ⟨u, h, e⟩))
    · have := h i e
      omega
theorem app_after {g x : Nat} {s t : PSt} {w1 w2 w3 : World} {vs vl vs' : Value} {us us' : List Value} {o : Obj} (ti : t.TI) (h : DL x s s.last w2 vs vl us ∧ PXS g x w1 vs vl us w2 vs vl us ∧ ∀ i, pS g w2 i → ¬ dA x vs vl us i) (p : PW g t w2)
    (hd : DL x t t.last w3 vs' vl us') (k : Kept (fun i => i = x ∨ vs.ownBlock = some i) (w2.alloc o) w3) (hv : ∀ i, vs'.ownBlock = some i → vs.ownBlock = some i ∨ (w2.alloc o).heap.size ≤ i) (hu : ∀ u ∈ us', u ∈ us ∨ ∀ i, u.ownBlock = some i → (w2.alloc o).heap.size ≤ i) : PX g x t w3 vs' vl us' ∧ PXS g x w1 vs vl us w3 vs' vl us' := by
  have ka := same_alloc w2 o
  have r := PX.right (h.1.same ka) (p.same ka) (fun i hp => h.2.2 i ((pS_same p.lt ka i).1 hp)) ti k hd (fun i hi q => dA_app hv hu hi q) (fun i hi e => (hv i e).resolve_right (by omega))
  have ks : PXS g x w2 vs vl us (w2.alloc o) vs vl us := ⟨ka.mono (fun _ _ e => e.elim), fun i _ hp => (pS_same p.lt ka i).1 hp, fun _ _ h => h, fun _ _ h => h⟩
  exact ⟨r.1, (h.2.1.trans ks).trans r.2⟩
set_option maxHeartbeats 8000000 in
set_option maxRecDepth 100000 in
theorem step_appW {g x : Nat} {s t : PSt} {w : World} {vs vl : Value} {us : List Value} (h : PX g x s w vs vl us) (hT : Tab w) (N off len : Int) (bv : Value) (bs : List UInt8) (hb : Bt w bv bs) (hl : bs.length ≤ 140737488351232)
    (hbn : ∀ k, 0 < bs.length → bv.ownBlock = some k → ¬ pS g w k ∧ ¬ dA x vs vl us k ∧ k < w.heap.size) (ti : t.TI) (a b E : Int)
    (HP : ∀ W v, PW g s W → Tab W → Bt W v bs → (∀ i, v.ownBlock = some i → ¬ pS g W i) → Calls Tryd.prog 13 #[.pointer (some ⟨g, 0, none⟩), v] W fun e w' => e = .returned (.tuple #[.agg #[.int .i64 a, .int .i64 b], .int .i64 E]) ∧ PW g t w' ∧ Turns g W w')
    (HD : ∀ W, DL x s s.last W vs vl us → Bt W bv bs → Calls Tryd.prog 43 #[.pointer (some ⟨x, 0, none⟩), bv] W fun e w' => e = .returned (.tuple #[.agg #[.int .i64 a, .int .i64 b], .int .i64 E]) ∧ ∃ vs' us', DL x t t.last w' vs' vl us' ∧ Kept (fun k => k = x ∨ vs.ownBlock = some k) W w' ∧ (∀ k, vs'.ownBlock = some k → vs.ownBlock = some k ∨ W.heap.size ≤ k) ∧ ∀ u ∈ us', u ∈ us ∨ ∀ k, u.ownBlock = some k → W.heap.size ≤ k) :
    Calls Tryd.prog 16 #[.pointer (some ⟨g, 0, none⟩), .pointer (some ⟨x, 0, none⟩), .agg #[.int .i64 1, .int .i64 N, bv, .int .i64 off, .int .i64 len]] w fun e w' => e = .returned (.bool true) ∧ Stepped g x w vs vl us w' := by
  obtain ⟨i1, hj, hy0, hy1, hy2⟩ := info_parts info5
  have H := hidden h
  obtain ⟨W0, hW0⟩ : ∃ W0, w.alloc (.cells #[.int .i64 1, .int .i64 N, bv, .int .i64 off, .int .i64 len] 36) = W0 := ⟨_, rfl⟩
  have KA : Hid (Same w W0) := hidden (by rw [← hW0]; exact same_alloc _ _)
  have HB : Hid (W0.heap[w.heap.size]? = some (.cells #[.int .i64 1, .int .i64 N, bv, .int .i64 off, .int .i64 len] 36)) := hidden (by rw [← hW0]; exact blk_new w _)
  have HA := hidden (H.out.same KA.out).1
  have HPh := hidden HP
  have HDh := hidden HD
  have HBT := hidden (hb.same KA.out)
  have HTT := hidden (hT.same KA.out)
  have HBN : Hid (∀ k, 0 < bs.length → bv.ownBlock = some k → ¬ pS g W0 k ∧ ¬ dA x vs vl us k ∧ k < W0.heap.size) := hidden (fun k h0 hk => ⟨fun hp => (hbn k h0 hk).1 ((pS_same H.out.pw.lt KA.out k).1 hp), (hbn k h0 hk).2.1, by have := (hbn k h0 hk).2.2; have := KA.out.size; omega⟩)
  obtain ⟨ba, bc, rfl, _⟩ := hb.form
  have c0 : W0.cell? ⟨w.heap.size, 0, none⟩ = some (.int .i64 1) := blk_cell HB.out
  have c2 : ∀ q, (W0.alloc q).cell? ⟨w.heap.size, 2, none⟩ = some (.slice ba bs.length bc) := fun q => blk_cell (blk_alloc HB.out q)
  have HMD : Hid ((W0.alloc (.cells #[] 5)).ownsRow W0.heap.size 5 1 (.slice (some ⟨W0.heap.size, 0, none⟩) 0 0) 0 []) := hidden (by
    have := World.ownsRow_made (base := W0.heap.size) (e := 5) (size := 1) W0 #[] 0 (Nat.le_refl _) (by decide) (by decide)
    simpa using this)
  have m0 : Hid (0 + bs.length ≤ maxLen) := hidden (by unfold maxLen; omega)
  have m00 : Hid ((0 + bs.length) * 1 ≤ 140737488355328) := hidden (by omega)
  have UC := hidden (U8_all bs)
  have HTI := hidden ti
  have HEq := fun W => slotI_eq W a b a b
  rw [decide_eq_true ⟨rfl, rfl⟩] at HEq
  have qe : (E == E) = true := by simp
  have qe2 : (E != E) = false := by simp
  have HSB : Hid (∀ W u v, Bt W u bs → Bt W v bs → Calls Tryd.prog 17 #[u, v] W fun e w' => e = .returned (.bool true) ∧ Same W w') := hidden (fun W u v h1 h2 => by
    have h5 := sameB_any u v bs bs W h1 h2 (by omega) (by omega)
    rw [decide_eq_true rfl] at h5
    exact h5)
  have HWL : Hid (w.heap.size < W0.heap.size) := hidden (blk_lt HB.out)
  have HLE := hidden hl
  have HXL : Hid (x < w.heap.size ∧ ∀ k, vs.ownBlock = some k → k < w.heap.size) := hidden ⟨blk_lt H.out.dl.box, fun k hk => H.out.dl.row.lt hk⟩
  have HNX : Hid (∀ i, w.heap.size ≤ i → ¬ (i = x ∨ vs.ownBlock = some i)) := hidden (fun i hi e => by
    rcases e with e | e
    · have := HXL.out.1; omega
    · have := HXL.out.2 i e; omega)
  have HOP : Hid (∀ W, Same W0 W → ∀ i, W0.heap.size ≤ i → ¬ pS g W i) := hidden (fun W k i hi hp => by have := HA.out.pw.below ((pS_same HA.out.pw.lt k i).1 hp); omega)
  obtain ⟨M, hM⟩ : ∃ M, bs.length = M := ⟨_, rfl⟩
  have HM := hidden hM
  rw [hM] at c2 m0 m00 HBT
  rw [hM] at HDh
  clear h hT hb hl hbn HP HD ti hM
  go_enter Tryd.func16, Tryd.ntmps16
  go_wp2_with (first
    | (at_builtin; refine wpList_append_any rfl _ _ 32 rfl W0.heap.size 5 i1 (.int .u8 0) 1 1 Tryd.underlying32 hj hy0 hy1 hy2 rfl (by decide) _ 0 0 [] rfl HMD.out ba M bc (bs.map U8) rfl (by rw [List.length_map, HM.out, Nat.mul_one]) ((HBT.out.same (same_alloc _ _)).lies) UC.out m0.out m00.out (by simp) ?_; intro ua uc w1 ho1 hg1; rw [Nat.zero_add, List.nil_append] at ho1; have k1 : Same W0 w1 := (((Kept.refl (fun _ => False) W0).alloc (.cells #[] 5))).grown hg1 (fun q hk hl => by have e' : some W0.heap.size = some q := hk; simp at e'; omega); have K1 := hidden k1; have O1 := hidden ho1; clear ho1 hg1 k1)
    | (go_at_call 13; refine (HPh.out w1 (.slice ua M uc) (HA.out.pw.same K1.out) (HTT.out.same K1.out) (own_bt HM.out O1.out) (fun i hi hp => by have h6 := (O1.out.lt i hi).1; have h7 := HA.out.pw.below ((pS_same HA.out.pw.lt K1.out i).1 hp); omega)).mono ?_; rintro e w2 ⟨rfl, hp2, t2⟩; have P2 := hidden hp2; have T2 := hidden t2; have L2 := hidden ((HA.out.same K1.out).1.left t2 hp2); have HB2 := hidden (blk_kept t2.kept (fun e => by have h9 := H.out.pw.below ((pS_same H.out.pw.lt (KA.out.trans K1.out) _).1 e); omega) (blk_kept K1.out (fun h => h) HB.out)); have e2 : ∀ q, (w2.alloc q).cell? ⟨w.heap.size, 2, none⟩ = some (.slice ba M bc) := fun q => cell_len HM.out (blk_cell (blk_alloc HB2.out q)); have Z2 := hidden t2.kept.size; clear hp2 t2)
    | (go_at_call 43; refine (HDh.out _ (L2.out.1.same (same_alloc _ _)) (((HBT.out.same K1.out).kept0 T2.out.kept (fun i h0 hi hp => (HBN.out i h0 (by rw [HM.out]; exact hi)).1 ((pS_same HA.out.pw.lt K1.out i).1 hp))).same (same_alloc _ _))).mono ?_; rintro e w3 ⟨rfl, vs', us', hd3, k3, hv3, hu3⟩; have QA := app_after HTI.out L2.out P2.out hd3 k3 hv3 hu3; have Q3 := hidden QA; have K3 := hidden k3; clear QA hd3 k3 hv3 hu3; have S3 := hidden (blk_kept K3.out (fun e => by rcases e with e | e; exact absurd HXL.out.1 (by have h7 := K1.out.size; have h8 := Z2.out; have h9 := HWL.out; omega); exact absurd (HXL.out.2 _ e) (by have h7 := K1.out.size; have h8 := Z2.out; have h9 := HWL.out; omega)) (blk_new w2 (.cells #[.int .i64 a, .int .i64 b] 34))); have f0 : ∀ q, (w3.alloc q).cell? ⟨w2.heap.size, 0, none⟩ = some (.int .i64 a) := fun q => blk_cell (blk_alloc S3.out q); have f1 : ∀ q, (w3.alloc q).cell? ⟨w2.heap.size, 1, none⟩ = some (.int .i64 b) := fun q => blk_cell (blk_alloc S3.out q); have n0 : (w3.alloc (.cells #[.int .i64 a, .int .i64 b] 34)).cell? ⟨w3.heap.size, 0, none⟩ = some (.int .i64 a) := blk_cell (blk_new w3 _); have n1 : (w3.alloc (.cells #[.int .i64 a, .int .i64 b] 34)).cell? ⟨w3.heap.size, 1, none⟩ = some (.int .i64 b) := blk_cell (blk_new w3 _); have HB3 := hidden (blk_kept K3.out (fun e => HNX.out _ (Nat.le_refl _) e) (blk_alloc HB2.out _)); have g2 : ∀ q, (w3.alloc q).cell? ⟨w.heap.size, 2, none⟩ = some (.slice ba M bc) := fun q => cell_len HM.out (blk_cell (blk_alloc HB3.out q)); have O4 := hidden ((own_kept (own_kept (own_kept O1.out T2.out.kept (fun i hi hp => HOP.out w1 K1.out i (O1.out.lt i hi).1 hp)) (same_alloc w2 (.cells #[.int .i64 a, .int .i64 b] 34)) (fun _ _ h => h)) K3.out (fun i hi e => HNX.out i (by have := (O1.out.lt i hi).1; have := HWL.out; omega) e)).alloc (.cells #[.int .i64 a, .int .i64 b] 34)); have B4 := hidden ((((((HBT.out.same K1.out).kept0 T2.out.kept (fun i h0 hi hp => (HBN.out i h0 (by rw [HM.out]; exact hi)).1 ((pS_same HA.out.pw.lt K1.out i).1 hp))).same (same_alloc w2 (.cells #[.int .i64 a, .int .i64 b] 34))).kept0 K3.out (fun i h0 hi e => (HBN.out i h0 (by rw [HM.out]; exact hi)).2.1 (dA_two e)))).same (same_alloc w3 (.cells #[.int .i64 a, .int .i64 b] 34))))
    | (go_at_call 17; refine (HSB.out _ _ _ (own_bt HM.out O4.out) B4.out).mono ?_; rintro e w4 ⟨rfl, k4⟩; have O5 := hidden (own_kept O4.out k4 (fun _ _ h => h)); have K34 : Hid (Same w3 w4) := hidden ((same_alloc w3 _).trans k4); clear k4))
  have R := Q3.out.1.same K34.out
  have RS := hidden (((HA.out.same K1.out).2.trans Q3.out.2).trans R.2)
  have RX := hidden R.1
  clear R
  have HBu : Hid (0 < M → ∃ b, ua = some ⟨b, 0, none⟩ ∧ W0.heap.size ≤ b ∧ b < w1.heap.size ∧ Bump w4 b M) := hidden (fun h0 => by
    have h5 := O5.out
    rw [← HM.out] at h5
    obtain ⟨b', c', e, h1, _, h2⟩ := Bump.own h5 (by rw [HM.out]; exact h0)
    rw [HM.out] at e h2
    cases e
    exact ⟨b', rfl, h1, (O1.out.lt b' rfl).2, h2⟩)
  go_loopw [12] (fun iv wr => ∃ i : Nat, iv = .int .i64 i ∧ i ≤ M ∧ (∀ b, ua = some ⟨b, 0, none⟩ → 0 < M → Bump wr b M) ∧ Kept (fun k => 0 < M ∧ ua = some ⟨k, 0, none⟩) w4 wr) (fun iv wr => M - (intOf iv).toNat)
  case atStart => exact ⟨0, rfl, Nat.zero_le _, fun b e h0 => by
    obtain ⟨b', e', _, _, h2⟩ := HBu.out h0
    rw [e] at e'
    cases e'
    exact h2, Kept.refl _ _⟩
  case round =>
    obtain ⟨i, rfl, hi, hW, hK⟩ := hrel
    by_cases h1 : i < M
    · obtain ⟨b', rfl, hb, _, _⟩ := HBu.out (by omega)
      obtain ⟨y, z1, z2, z3⟩ := (hW b' rfl (by omega)).cell h1
      have hmb := HLE.out
      rw [HM.out] at hmb
      have p0 : (0 : Int) ≤ (i : Int) := Int.natCast_nonneg _
      have p1 : (i : Int) < (M : Int) := by omega
      have Z3 := hidden z3
      have HKK := hidden hK
      clear hW hK z3
      go_wp2
      go_roundw
      case rel => exact ⟨i + 1, by go_num, by omega, fun b2 e _ => by cases e; exact Z3.out _, HKK.out.setCell (p := ⟨b', i, none⟩) ⟨by omega, rfl⟩ _⟩
      case measure => simp [intOf]; omega
    · have he : i = M := by omega
      subst he
      have p1 : ¬ (i : Int) < (i : Int) := by omega
      have HKK := hidden hK
      clear hW hK
      go_wp2
      go_returns
      have hz1 := K1.out.size
      have fin := PX.past RX.out RS.out HKK.out (fun k ⟨h0, e⟩ => by
        obtain ⟨b', e', hb, _⟩ := HBu.out h0
        rw [e] at e'
        cases e'
        exact hb) (fun k hp ⟨h0, e⟩ => by
        obtain ⟨b', e', hb, hb2, _⟩ := HBu.out h0
        rw [e] at e'
        cases e'
        have h7 := (Q3.out.2.trans (Q3.out.1.same K34.out).2).p k hb2 hp
        exact HOP.out w1 K1.out k hb h7) (fun k hd ⟨h0, e⟩ => by
        obtain ⟨b', e', hb, hb2, _⟩ := HBu.out h0
        rw [e] at e'
        cases e'
        have h7 := (Q3.out.2.trans (Q3.out.1.same K34.out).2).d k hb2 hd
        have := HA.out.dl.below h7
        omega)
      exact ⟨rfl, Stepped.ahead H.out KA.out ⟨_, _, _, _, fin.1, fin.2⟩⟩
end Go.Proofs.YtafdkfieajdeiaaDoor
namespace Go.Proofs.YtafdkfieajdeiaaDoor
open Go.RowKit
set_option linter.unusedVariables false
set_option linter.unusedSimpArgs false
theorem step_append {g x : Nat} {s : PSt} {w : World} {vs vl : Value} {us : List Value} (h : PX g x s w vs vl us) (hT : Tab w) (N off len : Int) (bv : Value) (bs : List UInt8) (hb : Bt w bv bs) (hl : bs.length ≤ 140737488351232)
    (hbn : ∀ k, 0 < bs.length → bv.ownBlock = some k → ¬ pS g w k ∧ ¬ dA x vs vl us k ∧ k < w.heap.size) :
    Calls Tryd.prog 16 #[.pointer (some ⟨g, 0, none⟩), .pointer (some ⟨x, 0, none⟩), .agg #[.int .i64 1, .int .i64 N, bv, .int .i64 off, .int .i64 len]] w fun e w' => e = .returned (.bool true) ∧ Stepped g x w vs vl us w' := by
  by_cases he : s.appErr bs.length = 0
  · refine step_appW h hT N off len bv bs hb hl hbn (PSt.app_ti h.pw.ok h.ti bs) ((s.bs.length + 8 : Nat) : Int) ((bs.length : Nat) : Int) 0 (fun W v hp ht hbb hv => p_appendYes hp ht v bs hbb hv he) (fun W hd hbb => (d_appYes hd bv bs hbb he).mono ?_)
    rintro e w' ⟨e1, vs', u, d, k, n1, n2⟩
    refine ⟨e1, vs', us ++ [u], by rw [PSt.app_last h.pw.ok]; exact d, k, n1, fun q hq => ?_⟩
    rcases List.mem_append.1 hq with hq | hq
    · exact Or.inl hq
    · simp at hq
      subst hq
      exact Or.inr n2
  · exact step_appW h hT N off len bv bs hb hl hbn h.ti 0 0 (s.appErr bs.length) (fun W v hp ht hbb hv => (p_appNo hp v bs hbb hl he).mono (fun e w' ⟨e1, k⟩ => ⟨e1, hp.same k, Turns.same hp.lt k⟩)) (fun W hd hbb => (d_appNo hd bv bs hbb hl he).mono (fun e w' ⟨e1, k⟩ => ⟨e1, vs, us, hd.same k, k.mono (fun _ _ e => e.elim), fun q hq => Or.inl hq, fun u hu => Or.inl hu⟩))
theorem step_any {g x : Nat} {s : PSt} {w : World} {vs vl : Value} {us : List Value} (h : PX g x s w vs vl us) (hT : Tab w) (kd N off len : Int) (bv : Value) (bs : List UInt8) (hb : Bt w bv bs) (hl : bs.length ≤ 140737488351232)
    (hbn : ∀ k, 0 < bs.length → bv.ownBlock = some k → ¬ pS g w k ∧ ¬ dA x vs vl us k ∧ k < w.heap.size) :
    Calls Tryd.prog 16 #[.pointer (some ⟨g, 0, none⟩), .pointer (some ⟨x, 0, none⟩), .agg #[.int .i64 kd, .int .i64 N, bv, .int .i64 off, .int .i64 len]] w fun e w' => e = .returned (.bool true) ∧ Stepped g x w vs vl us w' := by
  have hq : ∀ a : Int, kd ≠ a → (kd == a) = false := fun a h => by rw [beq_eq_false_iff_ne]; exact h
  by_cases e1 : kd = 1
  · subst e1; exact step_append h hT N off len bv bs hb hl hbn
  by_cases e2 : kd = 2
  · subst e2; exact step_left h N off len bv
  by_cases e3 : kd = 3
  · subst e3; exact step_take h hT N off len bv
  by_cases e4 : kd = 4
  · subst e4; exact step_read h N off len bv
  by_cases e5 : kd = 5
  · subst e5; exact step_slots h N off len bv
  by_cases e7 : kd = 7
  · subst e7; exact step_seal h N off len bv
  by_cases e8 : kd = 8
  · subst e8; exact step_back h N off len bv
  exact step_image h hT kd N off len bv (hq 1 e1) (hq 2 e2) (hq 3 e3) (hq 4 e4) (hq 5 e5) (hq 7 e7) (hq 8 e8)
end Go.Proofs.YtafdkfieajdeiaaDoor
namespace Go.Proofs.YtafdkfieajdeiaaDoor
open Go.RowKit
set_option linter.unusedVariables false
set_option linter.unusedSimpArgs false
/-- Both, in blocks that the law's call has made. -/
structure PL (w : World) (g x : Nat) (s : PSt) (vs vl : Value) (us : List Value) (wr : World) : Prop where
  px : PX g x s wr vs vl us
  same : Same w wr
  pn : ∀ k, pS g wr k → w.heap.size ≤ k
  dn : ∀ k, dA x vs vl us k → w.heap.size ≤ k
theorem PL.step {w wr w' : World} {g x : Nat} {s t : PSt} {vs vl vs' vl' : Value} {us us' : List Value} (h : PL w g x s vs vl us wr) (p : PX g x t w' vs' vl' us') (q : PXS g x wr vs vl us w' vs' vl' us') : PL w g x t vs' vl' us' w' := by
  have hz := h.same.size
  refine ⟨p, h.same.trans' q.kept (fun i hi e => ?_), fun k hk => ?_, fun k hk => ?_⟩
  · have : w.heap.size ≤ i := by
      rcases e with e | e | e
      · exact h.pn i e
      · exact h.dn i (Or.inl e)
      · exact h.dn i (Or.inr (Or.inl e))
    omega
  · by_cases hl : k < wr.heap.size
    · exact h.pn k (q.p k hl hk)
    · omega
  · by_cases hl : k < wr.heap.size
    · exact h.dn k (q.d k hl hk)
    · omega
theorem PL.stepped {w wr w' : World} {g x : Nat} {s : PSt} {vs vl : Value} {us : List Value} (h : PL w g x s vs vl us wr) (q : Stepped g x wr vs vl us w') : ∃ (t : PSt) (vs' vl' : Value) (us' : List Value), PL w g x t vs' vl' us' w' := by
  obtain ⟨t, a, b, c, p, q⟩ := q
  exact ⟨t, a, b, c, h.step p q⟩
theorem PL.same' {w wr w' : World} {g x : Nat} {s : PSt} {vs vl : Value} {us : List Value} (h : PL w g x s vs vl us wr) (k : Same wr w') : PL w g x s vs vl us w' := h.step (h.px.same k).1 (h.px.same k).2
/-- An elder container beside them, on which calls are made that nobody looks at. -/
structure PF (w : World) (g g' x : Nat) (t s : PSt) (vs vl : Value) (us : List Value) (wr : World) : Prop where
  pw : PW g t wr
  ti : t.TI
  pl : PL w g' x s vs vl us wr
  a1 : ∀ k, pS g' wr k → ¬ pS g wr k
  a2 : ∀ k, dA x vs vl us k → ¬ pS g wr k
  pn : ∀ k, pS g wr k → w.heap.size ≤ k
theorem PF.turn {w wr w' : World} {g g' x : Nat} {t t' s : PSt} {vs vl : Value} {us : List Value} (h : PF w g g' x t s vs vl us wr) (k : Turns g wr w') (p : PW g t' w') (ti : t'.TI) : PF w g g' x t' s vs vl us w' := by
  have hg' : ¬ pS g wr g' := h.a1 g' (Or.inl rfl)
  have hps := fun i => pS_kept h.pl.px.pw k.kept hg' i
  have hz := h.pl.same.size
  have hb : ∀ i, pS g' wr i → i < wr.heap.size := fun i hi => h.pl.px.pw.below hi
  have hd : ∀ i, dA x vs vl us i → i < wr.heap.size := fun i hi => h.pl.px.dl.below hi
  refine ⟨p, ti, ⟨⟨h.pl.px.pw.kept k.kept h.a1, h.pl.px.ti, h.pl.px.dl.kept k.kept h.a2, fun i hi => h.pl.px.ap i ((hps i).1 hi)⟩, h.pl.same.trans' k.kept (fun i hi e => by have := h.pn i e; omega), fun i hi => h.pl.pn i ((hps i).1 hi), h.pl.dn⟩, fun i hi e => ?_, fun i hi e => ?_, fun i hi => ?_⟩
  · have h1 := (hps i).1 hi
    exact h.a1 i h1 (k.row i (hb i h1) e)
  · exact h.a2 i hi (k.row i (hd i hi) e)
  · by_cases hl : i < wr.heap.size
    · exact h.pn i (k.row i hl hi)
    · omega
theorem PL.fork {w wr w' : World} {g g' x : Nat} {s : PSt} {vs vl : Value} {us : List Value} (h : PL w g x s vs vl us wr) (p : PW g' s w') (k : Same wr w') (hn : ∀ i, pS g' w' i → wr.heap.size ≤ i) : PF w g g' x s s vs vl us w' := by
  have hps := fun i => pS_same h.px.pw.lt k i
  have hz := h.same.size
  refine ⟨h.px.pw.same k, h.px.ti, ⟨⟨p, h.px.ti, h.px.dl.same k, fun i hi hd => by have := hn i hi; have := h.px.dl.below hd; omega⟩, h.same.trans k, fun i hi => by have := hn i hi; omega, h.dn⟩, fun i hi e => ?_, fun i hi e => h.px.ap i ((hps i).1 e) hi, fun i hi => h.pn i ((hps i).1 hi)⟩
  have h1 := hn i hi
  have h2 := h.px.pw.below ((hps i).1 e)
  omega
theorem p_appAny {g : Nat} {s : PSt} {w : World} (h : PW g s w) (ti : s.TI) (hT : Tab w) (v : Value) (c : List UInt8) (hb : Bt w v c) (hl : c.length ≤ 140737488351232) (hv : ∀ i, 0 < c.length → v.ownBlock = some i → ¬ pS g w i) :
    Calls Tryd.prog 13 #[.pointer (some ⟨g, 0, none⟩), v] w fun e w' => (∃ a b E : Int, e = .returned (.tuple #[.agg #[.int .i64 a, .int .i64 b], .int .i64 E])) ∧ ∃ t : PSt, t.TI ∧ PW g t w' ∧ Turns g w w' := by
  by_cases he : s.appErr c.length = 0
  · have hpos : 0 < c.length := by
      rcases Nat.eq_zero_or_pos c.length with h0 | h0
      · rw [h0] at he
        unfold PSt.appErr at he
        split at he <;> simp at he
      · exact h0
    refine (p_appendYes h hT v c hb (fun i hi => hv i hpos hi) he).mono ?_
    rintro e w' ⟨e1, p, k⟩
    exact ⟨⟨_, _, _, e1⟩, _, PSt.app_ti h.ok ti c, p, k⟩
  · refine (p_appNo h v c hb hl he).mono ?_
    rintro e w' ⟨e1, k⟩
    exact ⟨⟨_, _, _, e1⟩, s, ti, h.same k, Turns.same h.lt k⟩
set_option maxHeartbeats 2000000 in
set_option maxRecDepth 100000 in
theorem plays_1 (size count : Int) (id : Nat) (v : Value) (w : World) (hm : ¬ PMay size count) (hT : Tab w) :
    Calls Tryd.prog 3 #[.int .i64 size, .int .i64 count, .int .u32 id, v] w fun e w' => e = .returned (.bool true) ∧ Same w w' := by
  have HL := hidden (p_lives w hT)
  have HN := hidden (fun W => p_newNo size count id W hm)
  have HD := hidden (fun W => d_newNo size count id W hm)
  clear hm hT
  go_enter Tryd.func3, Tryd.ntmps3
  go_wp2_with (first
    | (go_at_call 9; refine (HL.out).mono ?_; rintro e w1 ⟨rfl, k1⟩)
    | (go_at_call 10; refine (HN.out _).mono ?_; rintro e w2 ⟨rfl, rfl⟩)
    | (go_at_call 11; refine (HD.out _).mono ?_; rintro e w3 ⟨rfl, k3⟩))
  go_returns
  exact ⟨rfl, k1.trans k3⟩
set_option maxHeartbeats 8000000 in
set_option maxRecDepth 100000 in
theorem plays_2 (S C : Nat) (id : Nat) (v : Value) (n : Nat) (f : Nat → POp) (w : World) (hm : PMay S C) (hid : id < 4294967296) (hin : POps w v n f) (hn : n * 56 ≤ 140737488351232) (hT : Tab w) :
    Calls Tryd.prog 3 #[.int .i64 S, .int .i64 C, .int .u32 id, v] w fun e w' => e = .returned (.bool true) ∧ Same w w' := by
  obtain ⟨va, vc, rfl, hin⟩ := hin
  have HIN := hidden hin
  have HT := hidden hT
  have HL := hidden (p_lives w hT)
  have HN := hidden (fun W (k : Same w W) => p_new S C id W (hT.same k) hm hid)
  have HD := hidden (fun W => d_new S C id W hm hid)
  have HQ := hidden (show n ≤ 140737488351232 by omega)
  clear hin hT hm hid hn
  go_enter Tryd.func3, Tryd.ntmps3
  go_wp2_with (first
    | (go_at_call 9; refine (HL.out).mono ?_; rintro e w1 ⟨rfl, k1⟩)
    | (go_at_call 10; refine (HN.out _ k1).mono ?_; rintro e w2 ⟨g0, rfl, hp, k2, hnew⟩)
    | (go_at_call 11; refine (HD.out _).mono ?_; rintro e w3 ⟨x, vs0, vl0, us0, rfl, hd, k3, hdn⟩))
  have PL0 : PL w g0 x (PSt.new S C id) vs0 vl0 us0 w3 := by
    have ks := k1.trans k2
    have hps := fun i => pS_same hp.lt k3 i
    refine ⟨⟨hp.same k3, PSt.new_ti _ _ _, by rw [PSt.new_last]; exact hd, fun i hi hq => ?_⟩, ks.trans k3, fun i hi => Nat.le_trans k1.size (hnew i ((hps i).1 hi)), fun i hi => Nat.le_trans ks.size (hdn i hi)⟩
    have h1 := hp.below ((hps i).1 hi)
    have h2 := hdn i hq
    omega
  have HP0 := hidden PL0
  clear PL0 hp hd hnew hdn k1 k2 k3
  go_loopw [9, 13, 14] (fun pv iv cv wr => ∃ (i g : Nat) (s : PSt) (vs vl : Value) (us : List Value), pv = .pointer (some ⟨g, 0, none⟩) ∧ iv = .int .i64 i ∧ i ≤ n ∧ PL w g x s vs vl us wr) (fun _ iv _ wr => n - (intOf iv).toNat)
  case atStart => exact ⟨0, g0, _, _, _, _, rfl, rfl, Nat.zero_le _, HP0.out⟩
  case round =>
    obtain ⟨i, g, s, vs, vl, us, rfl, rfl, hi', hP⟩ := hrel
    have HP := hidden hP
    by_cases h1 : i < n
    · obtain ⟨b, off, rfl, hops⟩ := HIN.out (by omega)
      have HO : Hid (∀ W, Same w W → W.cell? ⟨b, off + i * 5, none⟩ = some (.int .i64 (f i).kind) ∧ W.cell? ⟨b, off + i * 5 + 1, none⟩ = some (.int .i64 (f i).N) ∧ W.cell? ⟨b, off + i * 5 + 2, none⟩ = some (f i).bv ∧ W.cell? ⟨b, off + i * 5 + 3, none⟩ = some (.int .i64 (f i).off) ∧ W.cell? ⟨b, off + i * 5 + 4, none⟩ = some (.int .i64 (f i).len)) := hidden (fun W k => ⟨Kept.cell k (fun h => h) (hops i h1).2.1, Kept.cell k (fun h => h) (hops i h1).2.2.1, Kept.cell k (fun h => h) (hops i h1).2.2.2.1, Kept.cell k (fun h => h) (hops i h1).2.2.2.2.1, Kept.cell k (fun h => h) (hops i h1).2.2.2.2.2⟩)
      have HOK := hidden (hops i h1).1
      obtain ⟨p, hp⟩ : ∃ p, f i = p := ⟨_, rfl⟩
      rw [hp] at HO HOK
      clear hp hops
      obtain ⟨c0, c1, c2, c3, c4⟩ := HO.out _ HP.out.same
      have q0 : (0 : Int) ≤ (i : Int) := Int.natCast_nonneg _
      have q1 : (i : Int) < (n : Int) := by omega
      have hnb := HQ.out
      have HS := hidden (step_any HP.out.px (HT.out.same HP.out.same) p.kind p.N p.off p.len p.bv p.bs (HOK.out.bytes.same HP.out.same) HOK.out.len (fun k h0 hk => by
        have h5 := HOK.out.blk k h0 hk
        refine ⟨fun hps => ?_, fun hd => ?_, ?_⟩
        · have := HP.out.pn k hps; omega
        · have := HP.out.dn k hd; omega
        · have := HP.out.same.size; omega))
      obtain ⟨kd, hkd⟩ : ∃ kd, p.kind = kd := ⟨_, rfl⟩
      rw [hkd] at c0 HO HS
      obtain ⟨ba, bc, hbv, _⟩ := HOK.out.bytes.form
      have HBV : Hid (p.bv = .slice ba p.bs.length bc) := hidden hbv
      rw [hbv] at c2 HO HS
      clear hP hkd hbv
      by_cases e9 : kd = 9
      · subst e9
        have HF := hidden (p_fork HP.out.px.pw (HT.out.same HP.out.same))
        clear HS
        go_wp2_with (first
          | (go_at_call 12; refine (HF.out).mono ?_; rintro e w4 ⟨g', rfl, hp4, k4, hn4⟩; have F4 := hidden (HP.out.fork hp4 k4 hn4); have d2 : w4.cell? ⟨b, off + i * 5 + 2, none⟩ = some (.slice ba p.bs.length bc) := (HO.out _ F4.out.pl.same).2.2.1; clear hp4 k4 hn4)
          | (go_at_call 13; refine (p_appAny F4.out.pw F4.out.ti (HT.out.same F4.out.pl.same) _ p.bs (by have h5 := HOK.out.bytes.same F4.out.pl.same; rw [HBV.out] at h5; exact h5) HOK.out.len (fun k h0 hk hps => by have h5 := HOK.out.blk k h0 (by rw [HBV.out]; exact hk); have h6 := F4.out.pn k hps; omega)).mono ?_; rintro e w5 ⟨⟨r1, r2, r3, rfl⟩, t5, ti5, hp5, k5⟩; have F5 := hidden (F4.out.turn k5 hp5 ti5); clear ti5 hp5 k5)
          | (go_at_call 14; refine (p_take F5.out.pw (HT.out.same F5.out.pl.same) F5.out.ti).mono ?_; rintro e w6 ⟨tv, tu, rfl, _, hp6, k6, _⟩; have F6 := hidden (F5.out.turn k6 hp6 (PSt.took_ti F5.out.pw.ok)); clear hp6 k6)
          | (go_at_call 15; refine (p_seal F6.out.pw).mono ?_; rintro e w7 ⟨rfl, hp7, k7⟩; have F7 := hidden (F6.out.turn k7 hp7 (seal_ti' F6.out.ti)); clear hp7 k7))
        go_roundw
        case rel => exact ⟨i + 1, g', s, vs, vl, us, rfl, by go_num, by omega, F7.out.pl⟩
        case measure => simp [intOf]; omega
      · have b9 : (kd == 9) = false := by rw [beq_eq_false_iff_ne]; exact e9
        go_wp2_with (go_at_call 16; refine (HS.out).mono ?_; rintro e w4 ⟨rfl, hst⟩; have S4 := hidden (HP.out.stepped hst); clear hst)
        obtain ⟨t, a1, a2, a3, hq⟩ := S4.out
        go_roundw
        case rel => exact ⟨i + 1, g, t, a1, a2, a3, rfl, by go_num, by omega, hq⟩
        case measure => simp [intOf]; omega
    · have he : i = n := by omega
      subst he
      have q1 : ¬ (i : Int) < (i : Int) := by omega
      have hlen := PSt.img_len HP.out.px.pw.ok
      have hll : s.len ≤ 262144 := HP.out.px.pw.ok.room
      have HDI := hidden (fun W (k : Same wr W) => d_image (HP.out.px.dl.same k))
      have hmany : s.slots.length ≤ 32768 := by rw [PSt.slots, slotsFrom_len]; exact HP.out.px.pw.ok.many
      have HSS : Hid (∀ W u v, SlM W u s.slots → SlM W v s.slots → Calls Tryd.prog 20 #[u, v] W fun e w' => e = .returned (.bool true) ∧ Same W w') := hidden (fun W u v h1 h2 => sameSlots_any u v s.slots W h1 h2 (by omega))
      have HPS := hidden (fun W (k : Same wr W) => p_slots (HP.out.px.pw.same k))
      have HDS := hidden (fun W (k : Same wr W) => d_slots (HP.out.px.dl.same k))
      have HPT := hidden (fun W (k : Same wr W) => p_take (HP.out.px.pw.same k) (HT.out.same (HP.out.same.trans k)) HP.out.px.ti)
      have HDT := hidden (fun W (hd : DL x s s.last W vs vl us) => d_take hd)
      have hsc := HP.out.px.pw.ok.c1
      have hok := HP.out.px.pw.ok
      have HSC : Hid (∀ (u v : Value) (B C : Nat) (u1 u2 : List Value) (W : World), TSecs W u (s.secs s.sectors) B u1 → DSecs W v (s.secs s.sectors) C u2 → (∀ k, upTo u1 u1.length k → k < C) → Calls Tryd.prog 23 #[u, v] W fun e w' => e = .returned (.bool true) ∧ Kept (upTo u1 u1.length) W w') := hidden (fun u v B C u1 u2 W h1 h2 h3 => sectors_any _ u v B C u1 u2 W h1 h2 h3 (Nat.le_trans (s.secs_le _) hsc) (fun l hl => by
        obtain ⟨a, b⟩ := s.secs_mem _ l hl
        rw [b]
        have := hok.s1
        refine ⟨?_, by omega⟩
        unfold secB
        rw [List.length_take]
        omega))
      obtain ⟨I, hI⟩ : ∃ I, s.img = I := ⟨_, rfl⟩
      obtain ⟨L, hL⟩ : ∃ L, s.len = L := ⟨_, rfl⟩
      rw [hI, hL] at hlen
      rw [hL] at hll
      rw [hI, hL] at HDI
      have HPI : Hid (∀ W, Same wr W → Calls Tryd.prog 18 #[.pointer (some ⟨g, 0, none⟩)] W fun e w' => ∃ b, e = .returned (.slice (some ⟨b, 0, none⟩) L L) ∧ w'.heap[b]? = some (.cells (I.map U8).toArray 5 (0, 0)) ∧ Same W w') := hidden (fun W k => (p_image (HP.out.px.pw.same k) (HT.out.same (HP.out.same.trans k))).mono fun e w' ⟨h1, h2, h3⟩ => ⟨W.heap.size, by rw [← hL]; exact h1, by rw [← hI]; exact h2, h3⟩)
      have HSB : Hid (∀ W u v, Bt W u I → Bt W v I → Calls Tryd.prog 17 #[u, v] W fun e w' => e = .returned (.bool true) ∧ Same W w') := hidden (fun W u v h1 h2 => by
        have h5 := sameB_any u v I I W h1 h2 (by omega) (by omega)
        rw [decide_eq_true rfl] at h5
        exact h5)
      have HLN := hidden hlen
      clear hP hlen hll hmany hsc hok hI hL
      go_wp2_with (first
        | (go_at_call 18; refine (HPI.out _ (Kept.refl _ _)).mono ?_; rintro e w1 ⟨b0, rfl, hb1, k1⟩; have K1 := hidden k1; have B1 := hidden (bt_row hb1 HLN.out); clear hb1 k1)
        | (go_at_call 19; refine (HDI.out _ K1.out).mono ?_; rintro e w2 ⟨b2, rfl, _, hb2, k2⟩; have K2 := hidden (K1.out.trans k2); have B2 := hidden (bt_row hb2 HLN.out); have B1' := hidden (B1.out.same k2); clear hb2 k2)
        | (go_at_call 17; refine (HSB.out _ _ _ B1'.out B2.out).mono ?_; rintro e w3 ⟨rfl, k3⟩; have K3 := hidden (K2.out.trans k3); clear k3)
        | (go_at_call 21; refine (HPS.out _ K3.out).mono ?_; rintro e w4 ⟨u4, rfl, hb4, k4⟩; have K4 := hidden (K3.out.trans k4); have B4 := hidden hb4; clear hb4 k4)
        | (go_at_call 22; refine (HDS.out _ K4.out).mono ?_; rintro e w5 ⟨u5, rfl, hb5, k5⟩; have K5 := hidden (K4.out.trans k5); have B5 := hidden hb5; have B4' := hidden (B4.out.same k5); clear hb5 k5)
        | (go_at_call 20; refine (HSS.out _ _ _ B4'.out B5.out).mono ?_; rintro e w6 ⟨rfl, k6⟩; have K6 := hidden (K5.out.trans k6); have P6 := hidden (HP.out.same' K6.out); clear k6)
        | (go_at_call 14; refine (HPT.out _ K6.out).mono ?_; rintro e w7 ⟨tv, tu, rfl, hts, hp7, t7, hps⟩; have L7 := hidden (P6.out.px.left t7 hp7); have P7 := hidden hp7; have TS := hidden hts; clear hts hp7 t7 hps)
        | (go_at_call 24; refine (HDT.out _ L7.out.1).mono ?_; rintro e w8 ⟨dv, du, vl2, rfl, hds, hd8, k8, hn8⟩; have R8 := hidden (PX.right L7.out.1 P7.out L7.out.2.2 (PSt.took_ti HP.out.px.pw.ok) (k8.mono (fun _ _ e => Or.inl e)) hd8 (fun i hi q => dA_take hn8 hi q) (fun _ _ h => h)); have DS := hidden hds; have TS8 := hidden (TS.out.past k8 (blk_lt P6.out.px.dl.box)); clear hds hd8 k8 hn8)
        | (go_at_call 23; refine (HSC.out _ _ _ _ _ _ _ TS8.out DS.out (fun k ⟨j, u, _, hu, e⟩ => (TS.out.below j u hu k e).2)).mono ?_; rintro e w9 ⟨rfl, k9⟩))
      go_returns
      have h8 := P6.out.step R8.out.1 (L7.out.2.1.trans R8.out.2)
      refine ⟨rfl, h8.same.trans' k9 (fun i hi ⟨j, u, _, hu, e⟩ => ?_)⟩
      have h1 := (TS.out.below j u hu i e).1
      have h2 := P6.out.same.size
      omega
end Go.Proofs.YtafdkfieajdeiaaDoor
namespace Go.Proofs.YtafdkfieajdeiaaDoor
open Go.RowKit
set_option linter.unusedVariables false
set_option linter.unusedSimpArgs false
structure P2 (w : World) (g x : Nat) (s : PSt) (vs vl : Value) (us : List Value) (h y : Nat) (t : PSt) (vs2 vl2 : Value) (us2 : List Value) (wr : World) : Prop where
  a : PL w g x s vs vl us wr
  b : PL w h y t vs2 vl2 us2 wr
  ab : ∀ k, pxW g x wr vs k → ¬ pS h wr k ∧ ¬ dA y vs2 vl2 us2 k
  ba : ∀ k, pxW h y wr vs2 k → ¬ pS g wr k ∧ ¬ dA x vs vl us k
theorem P2.swap {w wr : World} {g x h y : Nat} {s t : PSt} {vs vl vs2 vl2 : Value} {us us2 : List Value} (H : P2 w g x s vs vl us h y t vs2 vl2 us2 wr) : P2 w h y t vs2 vl2 us2 g x s vs vl us wr := ⟨H.b, H.a, H.ba, H.ab⟩
theorem PX.below {g x : Nat} {s : PSt} {w : World} {vs vl : Value} {us : List Value} (h : PX g x s w vs vl us) {k : Nat} (hk : pxW g x w vs k) : k < w.heap.size := by
  rcases hk with e | e | e
  · exact h.pw.below e
  · exact h.dl.below (Or.inl e)
  · exact h.dl.below (Or.inr (Or.inl e))
theorem P2.step {w wr w' : World} {g x h y : Nat} {s s' t : PSt} {vs vl vs2 vl2 vs' vl' : Value} {us us2 us' : List Value} (H : P2 w g x s vs vl us h y t vs2 vl2 us2 wr) (p : PX g x s' w' vs' vl' us') (q : PXS g x wr vs vl us w' vs' vl' us') : P2 w g x s' vs' vl' us' h y t vs2 vl2 us2 w' := by
  have hno : ∀ i, pS h wr i → ¬ pxW g x wr vs i := fun i hi e => (H.ab i e).1 hi
  have hps := fun i => pS_kept H.b.px.pw q.kept (hno h (Or.inl rfl)) i
  have ha := H.a.step p q
  have hback : ∀ k, k < wr.heap.size → pxW g x w' vs' k → pxW g x wr vs k := fun k hl e => by
    rcases e with e | e | e
    · exact Or.inl (q.p k hl e)
    · exact Or.inr (Or.inl e)
    · exact Or.inr (Or.inr (q.v k hl e))
  refine ⟨ha, ⟨⟨H.b.px.pw.kept q.kept hno, H.b.px.ti, H.b.px.dl.kept q.kept (fun i hi e => (H.ab i e).2 hi), fun i hi => H.b.px.ap i ((hps i).1 hi)⟩, ha.same, fun i hi => H.b.pn i ((hps i).1 hi), H.b.dn⟩, fun k hk => ⟨fun e => ?_, fun e => ?_⟩, fun k hk => ?_⟩
  · have h1 := (hps k).1 e
    exact (H.ab k (hback k (H.b.px.pw.below h1) hk)).1 h1
  · exact (H.ab k (hback k (H.b.px.dl.below e) hk)).2 e
  · have hk' : pxW h y wr vs2 k := by
      rcases hk with e | e | e
      · exact Or.inl ((hps k).1 e)
      · exact Or.inr (Or.inl e)
      · exact Or.inr (Or.inr e)
    have hl := H.b.px.below hk'
    obtain ⟨h1, h2⟩ := H.ba k hk'
    exact ⟨fun e => h1 (q.p k hl e), fun e => h2 (q.d k hl e)⟩
theorem P2.stepped {w wr w' : World} {g x h y : Nat} {s t : PSt} {vs vl vs2 vl2 : Value} {us us2 : List Value} (H : P2 w g x s vs vl us h y t vs2 vl2 us2 wr) (q : Stepped g x wr vs vl us w') : ∃ (s' : PSt) (vs' vl' : Value) (us' : List Value), P2 w g x s' vs' vl' us' h y t vs2 vl2 us2 w' := by
  obtain ⟨s', a, b, c, p, q⟩ := q
  exact ⟨s', a, b, c, H.step p q⟩
theorem P2.same {w wr w' : World} {g x h y : Nat} {s t : PSt} {vs vl vs2 vl2 : Value} {us us2 : List Value} (H : P2 w g x s vs vl us h y t vs2 vl2 us2 wr) (k : Same wr w') : P2 w g x s vs vl us h y t vs2 vl2 us2 w' := H.step (H.a.px.same k).1 (H.a.px.same k).2
theorem DL.apartU {g : Nat} {s : PSt} {last : List UInt8} {w : World} {vs vl : Value} {us : List Value} (h : DL g s last w vs vl us) {u : Value} (hu : u ∈ us) {k : Nat} (hk : u.ownBlock = some k) : k ≠ g ∧ vs.ownBlock ≠ some k := by
  obtain ⟨q, hq⟩ := List.mem_iff_getElem?.1 hu
  have hql : q < s.chunks.length := by rw [← h.len]; exact (List.getElem?_eq_some_iff.1 hq).1
  have ho := h.chunks q _ u (List.getElem?_eq_getElem hql) hq
  refine ⟨fun e => ?_, fun e => ?_⟩
  · subst e
    exact ho.apart h.box (by decide) hk
  · rcases h.row.ex with ⟨rfl, _⟩ | ⟨r, cap, cur, fz, rfl, hr, _⟩
    · simp [Value.ownBlock] at e
    · simp [Value.ownBlock] at e
      subst e
      exact ho.apart hr (by decide) hk
theorem P2.make {w wr w1 w2 : World} {g x h y : Nat} {s : PSt} {vs vl vs2 vl2 : Value} {us : List Value} (H : PL w g x s vs vl us wr) (p : PW h s w1) (k1 : Same wr w1) (hn : ∀ i, pS h w1 i → wr.heap.size ≤ i) (d : DL y s s.last w2 vs2 vl2 us) (k2 : Same w1 w2) (hy : w1.heap.size ≤ y) (hv : ∀ i, vs2.ownBlock = some i → w1.heap.size ≤ i) (hl : ∀ i, vl2.ownBlock = some i → w1.heap.size ≤ i) : P2 w g x s vs vl us h y s vs2 vl2 us w2 := by
  have k12 := k1.trans k2
  have hA := H.same' k12
  have hps := fun i => pS_same p.lt k2 i
  have hpg := fun i => pS_same H.px.pw.lt k12 i
  have hz := H.same.size
  have hz1 := k1.size
  have hlow : ∀ i, pxW g x w2 vs i → i < wr.heap.size := fun i e => by
    rcases e with e | e | e
    · exact H.px.pw.below ((hpg i).1 e)
    · exact H.px.dl.below (Or.inl e)
    · exact H.px.dl.below (Or.inr (Or.inl e))
  have hsh : ∀ i, pS h w2 i → wr.heap.size ≤ i ∧ i < w1.heap.size := fun i e => ⟨hn i ((hps i).1 e), p.below ((hps i).1 e)⟩
  have hu : ∀ i, (∃ u ∈ us, u.ownBlock = some i) → i < wr.heap.size := fun i e => H.px.dl.below (Or.inr (Or.inr (Or.inr e)))
  have hd2 : ∀ i, dA y vs2 vl2 us i → w1.heap.size ≤ i ∨ ∃ u ∈ us, u.ownBlock = some i := fun i e => by
    rcases e with e | e | e | e
    · exact Or.inl (by omega)
    · exact Or.inl (hv i e)
    · exact Or.inl (hl i e)
    · exact Or.inr e
  refine ⟨hA, ⟨⟨p.same k2, H.px.ti, d, fun i hi e => ?_⟩, hA.same, fun i hi => by have := (hsh i hi).1; omega, fun i hi => ?_⟩, fun i hi => ⟨fun e => ?_, fun e => ?_⟩, fun i hi => ⟨fun e => ?_, fun e => ?_⟩⟩
  · have h1 := hsh i hi
    rcases hd2 i e with h2 | h2
    · omega
    · have := hu i h2; omega
  · rcases hd2 i hi with h2 | h2
    · omega
    · exact H.dn i (Or.inr (Or.inr (Or.inr h2)))
  · have := hlow i hi
    have := (hsh i e).1
    omega
  · have h1 := hlow i hi
    rcases hd2 i e with h2 | ⟨u, h2, h3⟩
    · omega
    · rcases hi with e1 | e1 | e1
      · exact H.px.ap i ((hpg i).1 e1) (Or.inr (Or.inr (Or.inr ⟨u, h2, h3⟩)))
      · exact (H.px.dl.apartU h2 h3).1 e1
      · exact (H.px.dl.apartU h2 h3).2 e1
  · have h1 := H.px.pw.below ((hpg i).1 e)
    rcases hi with e1 | e1 | e1
    · have := (hsh i e1).1; omega
    · omega
    · have := hv i e1; omega
  · have h1 := H.px.dl.below e
    rcases hi with e1 | e1 | e1
    · have := (hsh i e1).1; omega
    · omega
    · have := hv i e1; omega
/-! ### The calls at the end, of one pair -/
theorem img_p {g : Nat} {s : PSt} {w : World} (h : PW g s w) (hT : Tab w) : Calls Tryd.prog 18 #[.pointer (some ⟨g, 0, none⟩)] w fun e w' => ∃ b, e = .returned (.slice (some ⟨b, 0, none⟩) s.len s.len) ∧ Bt w' (.slice (some ⟨b, 0, none⟩) s.len s.len) s.img ∧ Same w w' :=
  (p_image h hT).mono fun e w' ⟨h1, h2, h3⟩ => ⟨w.heap.size, h1, bt_row h2 (PSt.img_len h.ok), h3⟩
theorem img_d {x : Nat} {s : PSt} {last : List UInt8} {w : World} {vs vl : Value} {us : List Value} (h : DL x s last w vs vl us) : Calls Tryd.prog 19 #[.pointer (some ⟨x, 0, none⟩)] w fun e w' => ∃ b, e = .returned (.slice (some ⟨b, 0, none⟩) s.len s.len) ∧ Bt w' (.slice (some ⟨b, 0, none⟩) s.len s.len) s.img ∧ Same w w' :=
  (d_image h).mono fun e w' ⟨b, h1, _, h2, h3⟩ => ⟨b, h1, bt_row h2 (PSt.img_len h.ok), h3⟩
theorem img_same {s : PSt} (hk : s.Ok) (W : World) (u v : Value) (h1 : Bt W u s.img) (h2 : Bt W v s.img) : Calls Tryd.prog 17 #[u, v] W fun e w' => e = .returned (.bool true) ∧ Same W w' := by
  have hl := PSt.img_len hk
  have hr : s.len ≤ 262144 := hk.room
  obtain ⟨I, hI⟩ : ∃ I, s.img = I := ⟨_, rfl⟩
  rw [hI] at h1 h2 hl
  have h5 := sameB_any u v I I W h1 h2 (by omega) (by omega)
  rw [decide_eq_true rfl] at h5
  exact h5
theorem sec_same {s : PSt} (hk : s.Ok) (u v : Value) (B C : Nat) (u1 u2 : List Value) (W : World) (h1 : TSecs W u (s.secs s.sectors) B u1) (h2 : DSecs W v (s.secs s.sectors) C u2) (h3 : ∀ k, upTo u1 u1.length k → k < C) : Calls Tryd.prog 23 #[u, v] W fun e w' => e = .returned (.bool true) ∧ Kept (upTo u1 u1.length) W w' :=
  sectors_any _ u v B C u1 u2 W h1 h2 h3 (Nat.le_trans (s.secs_le _) hk.c1) (fun l hl => by
    obtain ⟨a, b⟩ := s.secs_mem _ l hl
    rw [b]
    have := hk.s1
    have := hk.c1
    refine ⟨?_, by omega⟩
    unfold secB
    rw [List.length_take]
    omega)
theorem upto_lt {w : World} {v : Value} {ls : List (Nat × List UInt8)} {B : Nat} {us : List Value} (h : TSecs w v ls B us) : ∀ k, upTo us us.length k → k < w.heap.size := fun k ⟨j, u, _, hu, e⟩ => (h.below j u hu k e).2
/-- Take of both, and sectors over what was told. -/
theorem P2.takes {w w0 w1 w2 w3 : World} {g x h y : Nat} {s t : PSt} {vs vl vs2 vl2 vl' tv : Value} {us us2 tu : List Value} (H : P2 w g x s vs vl us h y t vs2 vl2 us2 w0)
    (hts : TSecs w1 tv (s.secs s.sectors) w0.heap.size tu) (p1 : PW g s.took w1) (t1 : Turns g w0 w1) (hps : ∀ k, pS g w1 k → pS g w0 k)
    (d2 : DL x s.took s.took.last w2 vs vl' us) (k2 : Kept (fun k => k = x) w1 w2) (hn2 : ∀ k, vl'.ownBlock = some k → w1.heap.size ≤ k) (k3 : Kept (upTo tu tu.length) w2 w3) : P2 w g x s.took vs vl' us h y t vs2 vl2 us2 w3 := by
  have L1 := H.a.px.left t1 p1
  have R2 := PX.right L1.1 p1 L1.2.2 (PSt.took_ti H.a.px.pw.ok) (k2.mono (fun _ _ e => Or.inl e)) d2 (fun i hi q => dA_take hn2 hi q) (fun _ _ h => h)
  have hblk : ∀ k, upTo tu tu.length k → w0.heap.size ≤ k ∧ k < w1.heap.size := fun k ⟨j, u, _, hu, e⟩ => hts.below j u hu k e
  have hxl := blk_lt H.a.px.dl.box
  have fin := PX.past R2.1 (L1.2.1.trans R2.2) k3 (fun i hi => (hblk i hi).1) (fun i hp hi => by
    have h1 := (pS_kept p1 k2 (fun e => L1.2.2 g (Or.inl rfl) (Or.inl e)) i).1 hp
    have h2 := H.a.px.pw.below (hps i h1)
    have := (hblk i hi).1
    omega) (fun i hd hi => by
    have hb := hblk i hi
    rcases hd with e | e | e | e
    · omega
    · have := H.a.px.dl.below (Or.inr (Or.inl e)); omega
    · have := hn2 i e; omega
    · have := H.a.px.dl.below (Or.inr (Or.inr (Or.inr e))); omega)
  exact H.step fin.1 fin.2
set_option maxHeartbeats 2000000 in
set_option maxRecDepth 100000 in
theorem forks_1 (size count : Int) (v v2 : Value) (w : World) (hm : ¬ PMay size count) (hT : Tab w) :
    Calls Tryd.prog 8 #[.int .i64 size, .int .i64 count, v, v2] w fun e w' => e = .returned (.bool true) ∧ Same w w' := by
  have HL := hidden (p_lives w hT)
  have HN := hidden (fun W => p_newNo size count 7 W hm)
  have HD := hidden (fun W => d_newNo size count 7 W hm)
  clear hm hT
  go_enter Tryd.func8, Tryd.ntmps8
  go_wp2_with (first
    | (go_at_call 9; refine (HL.out).mono ?_; rintro e w1 ⟨rfl, k1⟩)
    | (go_at_call 10; refine (HN.out _).mono ?_; rintro e w2 ⟨rfl, rfl⟩)
    | (go_at_call 11; refine (HD.out _).mono ?_; rintro e w3 ⟨rfl, k3⟩))
  go_returns
  exact ⟨rfl, k1.trans k3⟩
set_option maxHeartbeats 8000000 in
set_option maxRecDepth 100000 in
theorem forks_2 (S C : Nat) (v v2 : Value) (n n2 : Nat) (f f2 : Nat → POp) (w : World) (hm : PMay S C) (hin : POps w v n f) (hn : n * 56 ≤ 140737488351232) (hin2 : POps w v2 n2 f2) (hn2 : n2 * 56 ≤ 140737488351232) (hT : Tab w) :
    Calls Tryd.prog 8 #[.int .i64 S, .int .i64 C, v, v2] w fun e w' => e = .returned (.bool true) ∧ Same w w' := by
  obtain ⟨va, vc, rfl, hin⟩ := hin
  obtain ⟨va2, vc2, rfl, hin2⟩ := hin2
  have HIN := hidden hin
  have HIN2 := hidden hin2
  have HT := hidden hT
  have HL := hidden (p_lives w hT)
  have HN := hidden (fun W (k : Same w W) => p_new S C 7 W (hT.same k) hm (by decide))
  have HD := hidden (fun W => d_new S C 7 W hm (by decide))
  have HQ := hidden (show n ≤ 140737488351232 ∧ n2 ≤ 140737488351232 by omega)
  have HStep : Hid (∀ (g x : Nat) (s : PSt) (vs vl : Value) (us : List Value) (wr : World) (p : POp), p.ok w → PL w g x s vs vl us wr → Calls Tryd.prog 16 #[.pointer (some ⟨g, 0, none⟩), .pointer (some ⟨x, 0, none⟩), .agg #[.int .i64 p.kind, .int .i64 p.N, p.bv, .int .i64 p.off, .int .i64 p.len]] wr fun e w' => e = .returned (.bool true) ∧ Stepped g x wr vs vl us w') := hidden (fun g x s vs vl us wr p ho hP => step_any hP.px (hT.same hP.same) p.kind p.N p.off p.len p.bv p.bs (ho.bytes.same hP.same) ho.len (fun k h0 hk => by
    have h5 := ho.blk k h0 hk
    refine ⟨fun hps => ?_, fun hd => ?_, ?_⟩
    · have := hP.pn k hps; omega
    · have := hP.dn k hd; omega
    · have := hP.same.size; omega))
  clear hin hin2 hT hm hn hn2
  go_enter Tryd.func8, Tryd.ntmps8
  go_wp2_with (first
    | (go_at_call 9; refine (HL.out).mono ?_; rintro e w1 ⟨rfl, k1⟩)
    | (go_at_call 10; refine (HN.out _ k1).mono ?_; rintro e w2 ⟨g, rfl, hp, k2, hnew⟩)
    | (go_at_call 11; refine (HD.out _).mono ?_; rintro e w3 ⟨x, vs0, vl0, us0, rfl, hd, k3, hdn⟩))
  have PL0 : PL w g x (PSt.new S C 7) vs0 vl0 us0 w3 := by
    have ks := k1.trans k2
    have hps := fun i => pS_same hp.lt k3 i
    refine ⟨⟨hp.same k3, PSt.new_ti _ _ _, by rw [PSt.new_last]; exact hd, fun i hi hq => ?_⟩, ks.trans k3, fun i hi => Nat.le_trans k1.size (hnew i ((hps i).1 hi)), fun i hi => Nat.le_trans ks.size (hdn i hi)⟩
    have h1 := hp.below ((hps i).1 hi)
    have h2 := hdn i hq
    omega
  have HP0 := hidden PL0
  clear PL0 hp hd hnew hdn k1 k2 k3
  go_loopw [13] (fun iv wr => ∃ (i : Nat) (s : PSt) (vs vl : Value) (us : List Value), iv = .int .i64 i ∧ i ≤ n ∧ PL w g x s vs vl us wr) (fun iv wr => n - (intOf iv).toNat)
  case atStart => exact ⟨0, _, _, _, _, rfl, Nat.zero_le _, HP0.out⟩
  case round =>
    obtain ⟨i, s, vs, vl, us, rfl, hi', hP⟩ := hrel
    have HP := hidden hP
    by_cases h1 : i < n
    · obtain ⟨b, off, rfl, hops⟩ := HIN.out (by omega)
      obtain ⟨hok, y0, y1, y2, y3, y4⟩ := hops i h1
      have c0 := Kept.cell HP.out.same (fun h => h) y0
      have c1 := Kept.cell HP.out.same (fun h => h) y1
      have c2 := Kept.cell HP.out.same (fun h => h) y2
      have c3 := Kept.cell HP.out.same (fun h => h) y3
      have c4 := Kept.cell HP.out.same (fun h => h) y4
      have HS := hidden (HStep.out g x s vs vl us wr (f i) hok HP.out)
      have q0 : (0 : Int) ≤ (i : Int) := Int.natCast_nonneg _
      have q1 : (i : Int) < (n : Int) := by omega
      have hnb := HQ.out.1
      obtain ⟨ba, bc, hbv, _⟩ := hok.bytes.form
      obtain ⟨kd, hkd⟩ : ∃ kd, (f i).kind = kd := ⟨_, rfl⟩
      rw [hkd] at c0 HS
      rw [hbv] at c2 HS
      clear hP hkd hbv hops hok y0 y1 y2 y3 y4
      by_cases e9 : kd = 9
      · subst e9
        clear HS
        go_wp2
        go_roundw
        case rel => exact ⟨i + 1, s, vs, vl, us, by go_num, by omega, HP.out⟩
        case measure => simp [intOf]; omega
      · have b9 : (kd == 9) = false := by rw [beq_eq_false_iff_ne]; exact e9
        have b91 : (kd != 9) = true := by simp [b9, bne]
        go_wp2_with (go_at_call 16; refine (HS.out).mono ?_; rintro e w4 ⟨rfl, hst⟩; have S4 := hidden (HP.out.stepped hst); clear hst)
        obtain ⟨t, a1, a2, a3, hq⟩ := S4.out
        go_roundw
        case rel => exact ⟨i + 1, t, a1, a2, a3, by go_num, by omega, hq⟩
        case measure => simp [intOf]; omega
    · have he : i = n := by omega
      subst he
      have q1 : ¬ (i : Int) < (i : Int) := by omega
      have HPF := hidden (p_fork HP.out.px.pw (HT.out.same HP.out.same))
      have hll : s.last.length ≤ 262144 := by rw [PSt.last_len HP.out.px.pw.ok]; exact HP.out.px.pw.ok.room
      have HDF := hidden (fun W (k : Same wr W) => d_fork (HP.out.px.dl.same k) hll)
      clear hP hll
      go_wp2_with (first
        | (go_at_call 12; refine (HPF.out).mono ?_; rintro e w4 ⟨h, rfl, hp4, k4, hn4⟩; have F4 := hidden (And.intro hp4 (And.intro k4 hn4)); clear hp4 k4 hn4)
        | (go_at_call 34; refine (HDF.out _ F4.out.2.1).mono ?_; rintro e w5 ⟨vs5, vl5, rfl, hd5, k5, hv5, hl5⟩; have M5 := hidden (P2.make HP.out F4.out.1 F4.out.2.1 F4.out.2.2 hd5 k5 (Nat.le_refl _) hv5 hl5); clear hd5 k5 hv5 hl5))
      obtain ⟨y, hy⟩ : ∃ y, w4.heap.size = y := ⟨_, rfl⟩
      rw [hy] at M5 ⊢
      clear hy
      go_loopw [16] (fun jv wr => ∃ (j : Nat) (s : PSt) (vs vl : Value) (us : List Value) (t : PSt) (vs2 vl2 : Value) (us2 : List Value), jv = .int .i64 j ∧ j ≤ n2 ∧ P2 w g x s vs vl us h y t vs2 vl2 us2 wr) (fun jv wr => n2 - (intOf jv).toNat)
      case atStart => exact ⟨0, _, _, _, _, _, _, _, _, rfl, Nat.zero_le _, M5.out⟩
      case round =>
        obtain ⟨j, s, vs, vl, us, t, vs2, vl2, us2, rfl, hj', hM⟩ := hrel
        have H0 := hidden hM
        by_cases h2 : j < n2
        · obtain ⟨b, off, rfl, hops⟩ := HIN2.out (by omega)
          obtain ⟨hok, z0, z1, z2, z3, z4⟩ := hops j h2
          have c0 := Kept.cell H0.out.a.same (fun h => h) z0
          have c1 := Kept.cell H0.out.a.same (fun h => h) z1
          have c2 := Kept.cell H0.out.a.same (fun h => h) z2
          have c3 := Kept.cell H0.out.a.same (fun h => h) z3
          have c4 := Kept.cell H0.out.a.same (fun h => h) z4
          have HSa := hidden (HStep.out g x s vs vl us wr (f2 j) hok H0.out.a)
          have HSb := hidden (HStep.out h y t vs2 vl2 us2 wr (f2 j) hok H0.out.b)
          have p0 : (0 : Int) ≤ (j : Int) := Int.natCast_nonneg _
          have p1 : (j : Int) < (n2 : Int) := by omega
          have hnb := HQ.out.2
          obtain ⟨ba, bc, hbv, _⟩ := hok.bytes.form
          obtain ⟨kd, hkd⟩ : ∃ kd, (f2 j).kind = kd := ⟨_, rfl⟩
          rw [hkd] at c0 HSa HSb
          rw [hbv] at c2 HSa HSb
          clear hM hkd hbv hops hok z0 z1 z2 z3 z4
          by_cases e9 : kd = 9
          · subst e9
            clear HSa HSb
            go_wp2
            go_roundw
            case rel => exact ⟨j + 1, s, vs, vl, us, t, vs2, vl2, us2, by go_num, by omega, H0.out⟩
            case measure => simp [intOf]; omega
          · have b9 : (kd == 9) = false := by rw [beq_eq_false_iff_ne]; exact e9
            by_cases hp : j % 2 = 0
            · have r0 : (j : Int) % 2 = 0 := by omega
              have r1 : Int.tmod (j : Int) 2 = 0 := by rw [Int.tmod_eq_emod_of_nonneg p0]; exact r0
              clear HSb hp
              go_wp2_with (go_at_call 16; refine (HSa.out).mono ?_; rintro e w6 ⟨rfl, hst⟩; have S6 := hidden (H0.out.stepped hst); clear hst)
              obtain ⟨s', a1, a2, a3, hq⟩ := S6.out
              go_roundw
              case rel => exact ⟨j + 1, s', a1, a2, a3, t, vs2, vl2, us2, by go_num, by omega, hq⟩
              case measure => simp [intOf]; omega
            · have r0 : (j : Int) % 2 = 1 := by omega
              have r1 : Int.tmod (j : Int) 2 = 1 := by rw [Int.tmod_eq_emod_of_nonneg p0]; exact r0
              clear HSa hp
              go_wp2_with (go_at_call 16; refine (HSb.out).mono ?_; rintro e w6 ⟨rfl, hst⟩; have S6 := hidden (H0.out.swap.stepped hst); clear hst)
              obtain ⟨t', a1, a2, a3, hq⟩ := S6.out
              go_roundw
              case rel => exact ⟨j + 1, s, vs, vl, us, t', a1, a2, a3, by go_num, by omega, hq.swap⟩
              case measure => simp [intOf]; omega
        · have he : j = n2 := by omega
          subst he
          have p1 : ¬ (j : Int) < (j : Int) := by omega
          have tA : True := trivial
          clear hM
          go_wp2_with (first
            | (go_at_call 18; have _t := tA; clear tA; refine (img_p H0.out.a.px.pw (HT.out.same H0.out.a.same)).mono ?_; rintro e w6 ⟨b6, rfl, hb6, k6⟩; have H6 := hidden (H0.out.same k6); have B6 := hidden hb6; have tA2 : True := trivial; clear hb6 k6)
            | (go_at_call 19; have _t := tA2; clear tA2; refine (img_d H6.out.a.px.dl).mono ?_; rintro e w7 ⟨b7, rfl, hb7, k7⟩; have H7 := hidden (H6.out.same k7); have B7 := hidden hb7; have B6' := hidden (B6.out.same k7); have tA3 : True := trivial; clear hb7 k7)
            | (go_at_call 17; have _t := tA3; clear tA3; refine (img_same H7.out.a.px.pw.ok _ _ _ B6'.out B7.out).mono ?_; rintro e w8 ⟨rfl, k8⟩; have H8 := hidden (H7.out.same k8); have tB : True := trivial; clear k8)
            | (go_at_call 18; have _t := tB; clear tB; refine (img_p H8.out.b.px.pw (HT.out.same H8.out.b.same)).mono ?_; rintro e w9 ⟨b9, rfl, hb9, k9⟩; have H9 := hidden (H8.out.same k9); have B9 := hidden hb9; have tB2 : True := trivial; clear hb9 k9)
            | (go_at_call 19; have _t := tB2; clear tB2; refine (img_d H9.out.b.px.dl).mono ?_; rintro e w10 ⟨b10, rfl, hb10, k10⟩; have H10 := hidden (H9.out.same k10); have B10 := hidden hb10; have B9' := hidden (B9.out.same k10); have tB3 : True := trivial; clear hb10 k10)
            | (go_at_call 17; have _t := tB3; clear tB3; refine (img_same H10.out.b.px.pw.ok _ _ _ B9'.out B10.out).mono ?_; rintro e w11 ⟨rfl, k11⟩; have H11 := hidden (H10.out.same k11); have tC : True := trivial; clear k11)
            | (go_at_call 14; have _t := tC; clear tC; refine (p_take H11.out.a.px.pw (HT.out.same H11.out.a.same) H11.out.a.px.ti).mono ?_; rintro e w12 ⟨tv, tu, rfl, hts, hp12, t12, hps⟩; have A12 := hidden (And.intro hts (And.intro hp12 (And.intro t12 hps))); have L12 := hidden (H11.out.a.px.left t12 hp12).1; have tC2 : True := trivial; clear hts hp12 t12 hps)
            | (go_at_call 24; have _t := tC2; clear tC2; refine (d_take L12.out).mono ?_; rintro e w13 ⟨dv, du, vl13, rfl, hds, hd13, k13, hn13⟩; have A13 := hidden (And.intro hds (And.intro hd13 (And.intro k13 hn13))); have TS13 := hidden (A12.out.1.past k13 (blk_lt H11.out.a.px.dl.box)); have tC3 : True := trivial; clear hds hd13 k13 hn13)
            | (go_at_call 23; have _t := tC3; clear tC3; refine (sec_same H11.out.a.px.pw.ok _ _ _ _ _ _ _ TS13.out A13.out.1 (upto_lt A12.out.1)).mono ?_; rintro e w14 ⟨rfl, k14⟩; have H14 : Hid (P2 w h y t vs2 vl2 us2 g x s.took vs vl13 us w14) := hidden (P2.swap (P2.takes (w0 := w11) (w1 := w12) (w2 := w13) (tv := tv) (tu := tu) (vl' := vl13) H11.out A12.out.1 A12.out.2.1 A12.out.2.2.1 A12.out.2.2.2 A13.out.2.1 A13.out.2.2.1 A13.out.2.2.2 k14)); have tD : True := trivial; clear k14)
            | (go_at_call 14; have _t := tD; clear tD; refine (p_take H14.out.a.px.pw (HT.out.same H14.out.a.same) H14.out.a.px.ti).mono ?_; rintro e w15 ⟨tv2, tu2, rfl, hts, hp15, t15, hps⟩; have A15 := hidden (And.intro hts (And.intro hp15 (And.intro t15 hps))); have L15 := hidden (H14.out.a.px.left t15 hp15).1; have tD2 : True := trivial; clear hts hp15 t15 hps)
            | (go_at_call 24; have _t := tD2; clear tD2; refine (d_take L15.out).mono ?_; rintro e w16 ⟨dv2, du2, vl16, rfl, hds, hd16, k16, hn16⟩; have A16 := hidden (And.intro hds (And.intro hd16 (And.intro k16 hn16))); have TS16 := hidden (A15.out.1.past k16 (blk_lt H14.out.a.px.dl.box)); have tD3 : True := trivial; clear hds hd16 k16 hn16)
            | (go_at_call 23; have _t := tD3; clear tD3; refine (sec_same H14.out.a.px.pw.ok _ _ _ _ _ _ _ TS16.out A16.out.1 (upto_lt A15.out.1)).mono ?_; rintro e w17 ⟨rfl, k17⟩; have H17 : Hid (P2 w h y t.took vs2 vl16 us2 g x s.took vs vl13 us w17) := hidden (P2.takes (w0 := w14) (w1 := w15) (w2 := w16) (tv := tv2) (tu := tu2) (vl' := vl16) H14.out A15.out.1 A15.out.2.1 A15.out.2.2.1 A15.out.2.2.2 A16.out.2.1 A16.out.2.2.1 A16.out.2.2.2 k17); clear k17))
          go_returns
          exact ⟨rfl, H17.out.a.same⟩
end Go.Proofs.YtafdkfieajdeiaaDoor
