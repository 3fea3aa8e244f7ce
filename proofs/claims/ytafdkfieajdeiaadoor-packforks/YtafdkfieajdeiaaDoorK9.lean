/- pack: Read of a slot. -/
import Derived.Test.YtafdkfieajdeiaaDoorK8
import Derived.Test.YtafdkfieajdeiaaDoorK6
import Derived.Deep.RegionHeld3
namespace Go.Proofs.YtafdkfieajdeiaaDoor
open Go.RowKit
set_option linter.unusedVariables false

theorem slot_at : ∀ (cs : List (List UInt8)) (pre : List UInt8) (i : Nat) (hi : i < cs.length),
    ∃ o, (slotsFrom pre.length cs)[i]? = some (o, cs[i].length) ∧ ((pre ++ bodyB cs).drop o).take cs[i].length = cs[i] ∧ o + cs[i].length ≤ pre.length + (bodyB cs).length ∧ pre.length + 8 ≤ o := by
  intro cs
  induction cs with
  | nil => intro pre i hi; simp at hi
  | cons c cs ih =>
    intro pre i hi
    cases i with
    | zero =>
      refine ⟨pre.length + 8, rfl, ?_, ?_, Nat.le_refl _⟩
      · have e : pre ++ bodyB (c :: cs) = (pre ++ slotB c) ++ (c ++ bodyB cs) := by simp [bodyB]
        rw [e, List.drop_left' (by rw [List.length_append, slotB_len])]
        simp
      · simp [bodyB, slotB_len]; omega
    | succ i =>
      obtain ⟨o, h1, h2, h3, h4⟩ := ih (pre ++ slotB c ++ c) i (by simpa using hi)
      have hl : (pre ++ slotB c ++ c).length = pre.length + 8 + c.length := by simp [slotB_len]; omega
      rw [hl] at h1 h3 h4
      refine ⟨o, by simpa [slotsFrom] using h1, ?_, ?_, by omega⟩
      · have e : pre ++ bodyB (c :: cs) = (pre ++ slotB c ++ c) ++ bodyB cs := by simp [bodyB]
        rw [e]
        simpa using h2
      · simp only [List.getElem_cons_succ]
        have : (bodyB (c :: cs)).length = 8 + c.length + (bodyB cs).length := by simp [bodyB, slotB_len]; omega
        omega
theorem rise_from : ∀ (cs : List (List UInt8)) (a : Nat), RiseS (slotsFrom a cs) ∧ ∀ s ∈ slotsFrom a cs, a + 8 ≤ s.1 := by
  intro cs
  induction cs with
  | nil => intro a; exact ⟨fun i j hi => by simp [slotsFrom] at hi, fun s hs => by simp [slotsFrom] at hs⟩
  | cons c cs ih =>
    intro a
    obtain ⟨h1, h2⟩ := ih (a + 8 + c.length)
    constructor
    · intro i j hi hj hij
      simp only [slotsFrom] at hi hj ⊢
      cases j with
      | zero => omega
      | succ j =>
        cases i with
        | zero =>
          simp only [List.getElem_cons_zero, List.getElem_cons_succ]
          have := h2 _ (List.getElem_mem (by simpa using hj : j < (slotsFrom (a + 8 + c.length) cs).length))
          omega
        | succ i =>
          simp only [List.getElem_cons_succ]
          exact h1 i j (by simpa using hi) (by simpa using hj) (by omega)
    · intro s hs
      simp only [slotsFrom, List.mem_cons] at hs
      rcases hs with rfl | hs
      · exact Nat.le_refl _
      · have := h2 s hs
        omega
/-- What Read tells. -/
def PSt.read (s : PSt) (o n : Int) : Option (List UInt8) := ((s.slots.zip s.chunks).find? fun x => decide ((x.1.1 : Int) = o ∧ (x.1.2 : Int) = n)).map (·.2)
theorem zip_at {s : PSt} {x : (Nat × Nat) × List UInt8} (h : x ∈ s.slots.zip s.chunks) : ∃ i : Nat, s.slots[i]? = some x.1 ∧ s.chunks[i]? = some x.2 := by
  obtain ⟨i, hi, rfl⟩ := List.getElem_of_mem h
  rw [List.length_zip] at hi
  refine ⟨i, ?_, ?_⟩
  · rw [List.getElem_zip, List.getElem?_eq_getElem (by omega)]
  · rw [List.getElem_zip, List.getElem?_eq_getElem (by omega)]
theorem rise_inj {l : List (Nat × Nat)} (hs : RiseS l) {i j : Nat} {x y : Nat × Nat} (hi : l[i]? = some x) (hj : l[j]? = some y) (e : x.1 = y.1) : i = j := by
  obtain ⟨h1, rfl⟩ := List.getElem?_eq_some_iff.1 hi
  obtain ⟨h2, rfl⟩ := List.getElem?_eq_some_iff.1 hj
  rcases Nat.lt_trichotomy i j with h | h | h
  · have := hs i j h1 h2 h; omega
  · exact h
  · have := hs j i h2 h1 h; omega
theorem PSt.read_none {s : PSt} {o n : Int} (h : (s.slots.any fun x => decide ((x.1 : Int) = o)) = false) : s.read o n = none := by
  unfold PSt.read
  rw [List.find?_eq_none.2, Option.map_none]
  intro x hx
  obtain ⟨i, h1, _⟩ := zip_at hx
  have h2 := List.any_eq_false.1 h x.1 (List.mem_of_getElem? h1)
  simp only [decide_eq_true_eq] at h2 ⊢
  exact fun e => h2 e.1
theorem PSt.read_at {s : PSt} {o n : Int} {i a m : Nat} {c : List UInt8} (h1 : s.slots[i]? = some (a, m)) (h2 : s.chunks[i]? = some c) (ho : (a : Int) = o) : s.read o n = if (m : Int) = n then some c else none := by
  have key : ∀ x ∈ s.slots.zip s.chunks, (x.1.1 : Int) = o → x = ((a, m), c) := by
    intro x hx e
    obtain ⟨j, q1, q2⟩ := zip_at hx
    have : j = i := rise_inj (rise_from s.chunks 16).1 q1 h1 (by simp only; omega)
    subst this
    rw [h1] at q1
    rw [h2] at q2
    obtain ⟨x1, x2⟩ := x
    simp only [Option.some.injEq] at q1 q2
    rw [← q1, ← q2]
  unfold PSt.read
  by_cases hn : (m : Int) = n
  · rw [if_pos hn]
    have hm : ((a, m), c) ∈ s.slots.zip s.chunks := by
      have : (s.slots.zip s.chunks)[i]? = some ((a, m), c) := by rw [List.getElem?_zip_eq_some]; exact ⟨h1, h2⟩
      exact List.mem_of_getElem? this
    cases hf : (s.slots.zip s.chunks).find? fun x => decide ((x.1.1 : Int) = o ∧ (x.1.2 : Int) = n) with
    | none =>
      have := List.find?_eq_none.1 hf _ hm
      simp [ho, hn] at this
    | some x =>
      have h3 := List.find?_some hf
      have h4 := List.mem_of_find?_eq_some hf
      simp only [decide_eq_true_eq] at h3
      rw [key x h4 h3.1]
      rfl
  · rw [if_neg hn, List.find?_eq_none.2, Option.map_none]
    intro x hx
    simp only [decide_eq_true_eq]
    rintro ⟨e1, e2⟩
    rw [key x hx e1] at e2
    exact hn e2
set_option maxHeartbeats 4000000 in
set_option maxRecDepth 100000 in
theorem p_read {g : Nat} {s : PSt} {w : World} (h : PW g s w) (o n : Int) :
    Calls Tryd.prog 30 #[.pointer (some ⟨g, 0, none⟩), .agg #[.int .i64 o, .int .i64 n]] w fun e w' => ∃ u, e = .returned (.tuple #[u, .int .i64 (if (s.read o n).isSome then 0 else 130)]) ∧ Bt w' u ((s.read o n).getD []) ∧ Same w w' := by
  have hmany := h.ok.many
  have hbl : s.bs.length ≤ 262144 := by have := h.ok.room; have := h.ok.b1; omega
  have A := hidden (fun W (k : Same w W) => p_made (h.same k))
  have hsl : s.slots.length = s.chunks.length := slotsFrom_len _ _
  have HBS : Hid (∀ W, Same w W → ∀ vs, OwnM W 34 2 vs s.slots.length (slotCells s.slots) → Calls Tryd.prog 60 #[vs, .agg #[.int .i64 o, .int .i64 n], .func (.func 61) #[] #[]] W fun e w' => ∃ i : Nat, e = .returned (.tuple #[.int .i64 i, .bool (s.slots.any fun x => decide ((x.1 : Int) = o))]) ∧ (∀ x ∈ s.slots, (x.1 : Int) = o → s.slots[i]? = some x) ∧ Same W w') := hidden (fun W k vs hv => bsf_any o n hv (rise_from s.chunks 16).1 (by omega))
  obtain ⟨⟨vb, vs, hB, hO, hS⟩, hok, hnt⟩ := h
  have HB := hidden hB
  have HO := hidden hO
  have HS := hidden hS
  have hmx : Tryd.prog.follows .mixedOrders = true := by kernel_rfl
  obtain ⟨va, vc, rfl, hvc⟩ := hS.form
  have c3 : ∀ q, (w.alloc q).cell? ⟨g, 3, none⟩ = some (.slice va s.slots.length vc) := fun q => blk_cell (blk_alloc hB q)
  clear hB hO hS hok hnt
  by_cases hany : (s.slots.any fun x => decide ((x.1 : Int) = o)) = true
  · obtain ⟨x, hxm, hxo⟩ := List.any_eq_true.1 hany
    obtain ⟨a, cn⟩ := x
    simp only [decide_eq_true_eq] at hxo
    subst hxo
    rw [hany] at HBS
    obtain ⟨i, hil, hi⟩ : ∃ i, i < s.slots.length ∧ s.slots[i]? = some (a, cn) := by
      obtain ⟨i, hi, e⟩ := List.getElem_of_mem hxm
      exact ⟨i, hi, by rw [List.getElem?_eq_getElem hi, e]⟩
    have HBS2 : Hid (∀ W, Same w W → Calls Tryd.prog 60 #[.slice va s.slots.length vc, .agg #[.int .i64 (a : Int), .int .i64 n], .func (.func 61) #[] #[]] W fun e w' => e = .returned (.tuple #[.int .i64 i, .bool true]) ∧ Same W w') := hidden (fun W k => (HBS.out W k _ (HS.out.same k)).mono fun e w' ⟨i', h1, h2, h3⟩ => by
      have e : i' = i := rise_inj (rise_from s.chunks 16).1 (h2 _ hxm rfl) hi rfl
      subst e
      exact ⟨h1, h3⟩)
    clear HBS hany hxm
    have GO : ∃ c, s.chunks[i]? = some c ∧ c.length = cn ∧ a + cn ≤ s.bs.length ∧ (s.bs.drop a).take cn = c := by
      have hlt : i < s.chunks.length := by rw [← hsl]; exact hil
      obtain ⟨o', q1, q2, q3, q4⟩ := slot_at s.chunks (headB s.id s.sectors) i hlt
      rw [headB_len] at q1 q3
      rw [show slotsFrom 16 s.chunks = s.slots from rfl, hi] at q1
      simp only [Option.some.injEq, Prod.mk.injEq] at q1
      obtain ⟨rfl, rfl⟩ := q1
      exact ⟨_, List.getElem?_eq_getElem hlt, rfl, by rw [s.bs_len]; exact q3, q2⟩
    obtain ⟨c, hc1, hc2, hc3, hc4⟩ := GO
    have hcs : ∀ W, Same w W → ∃ b, va = some ⟨b, 0, none⟩ ∧ W.cell? ⟨b, i * 2, none⟩ = some (.int .i64 (a : Int)) ∧ W.cell? ⟨b, i * 2 + 1, none⟩ = some (.int .i64 (cn : Int)) := fun W kk => by
      have h2 := HS.out.same kk
      rcases h2.ex with ⟨_, e⟩ | ⟨b, cp, cur, fz, e, _⟩
      · omega
      · simp only [Value.slice.injEq] at e
        obtain ⟨rfl, _, rfl⟩ := e
        obtain ⟨q1, q2⟩ := slot_cell hil
        rw [show s.slots[i] = (a, cn) from Option.some.inj ((List.getElem?_eq_getElem hil).symm.trans hi)] at q1 q2
        exact ⟨b, rfl, h2.cells (g := b) rfl _ _ q1, h2.cells (g := b) rfl _ _ q2⟩
    have HCS := hidden hcs
    have D3 : Hid (∀ W, Same w W → W.cell? ⟨g, 3, none⟩ = some (.slice va s.slots.length vc)) := fun W kk => blk_cell (blk_kept kk (fun h => h) HB.out)
    have hread : s.read (a : Int) n = if (cn : Int) = n then some c else none := PSt.read_at hi hc1 rfl
    rw [hread]
    clear hread hcs hc1 hi HS hsl
    generalize hSL : s.slots.length = SN at *
    have q1 : (0 : Int) ≤ (i : Int) := Int.natCast_nonneg _
    have q2 : (i : Int) < (SN : Int) := by omega
    clear hSL
    by_cases hn : (cn : Int) = n
    · subst hn
      rw [if_pos rfl]
      obtain ⟨ba, bc, rfl, hbc⟩ := HO.out.form
      have HBt := Bt.ownM HO.out
      obtain ⟨p2, hs2, hb2⟩ := HBt.sub (i := a) (j := a + cn) (by omega) (by omega) (a : Int) ((a : Int) + cn) rfl (by omega)
      rw [show a + cn - a = cn by omega, take_drop_sub s.bs a (a + cn) (by omega), show a + cn - a = cn by omega, hc4] at hb2
      rw [show a + cn - a = cn by omega] at hs2
      have HCl : Hid (∀ W, Same w W → Calls Tryd.prog 39 #[.slice p2 cn (bc - a)] W fun e w' => ∃ u, e = .returned u ∧ w'.ownsRow W.heap.size 5 1 u c.length (c.map U8) ∧ Same W w') := hidden (fun W k => cloneB _ c W (hb2 W k) (by omega))
      have D2 : Hid (∀ W, Same w W → W.cell? ⟨g, 2, none⟩ = some (.slice ba s.bs.length bc)) := fun W kk => blk_cell (blk_kept kk (fun h => h) HB.out)
      generalize hBL : s.bs.length = BN at *
      have hww : IntKind.i64.wrap ((a : Int) + (cn : Int)) = (a : Int) + (cn : Int) := by rw [IntKind.wrap_i64]; omega
      clear hb2 HBt hc2 hc4 hBL HO HB
      go_enter Tryd.func30, Tryd.ntmps30
      go_wp2_with (go_at_call 38; refine (A.out _ (same_alloc _ _)).mono ?_; rintro e w0 ⟨rfl, rfl⟩)
      go_region_law (refine step_call rfl 60 #[.slice va SN vc, .agg #[.int .i64 (a : Int), .int .i64 (cn : Int)], .func (.func 61) #[] #[]] (fun u W => u = .tuple #[.int .i64 i, .bool true] ∧ Same (w.alloc (.cells #[.int .i64 (a : Int), .int .i64 (cn : Int)] 34)) W) (by go_simp; try rfl) ((HBS2.out _ ((same_alloc _ _).drew)).mono (fun e w' ⟨h1, h3⟩ => ⟨_, h1, rfl, ⟨h3.os, h3.tape, h3.output, h3.size, h3.block⟩⟩)) ?_; rintro u w1 ⟨rfl, k1⟩)
      all_goals
        have K1 := hidden (Kept.trans (same_alloc w _) k1)
        have bx := blk_kept k1 (fun h => h) (blk_new w _)
        have x0 : w1.cell? ⟨w.heap.size, 0, none⟩ = some (.int .i64 (a : Int)) := blk_cell bx
        have x1 : w1.cell? ⟨w.heap.size, 1, none⟩ = some (.int .i64 (cn : Int)) := blk_cell bx
        have d3 := D3.out w1 K1.out
        have d2 := D2.out w1 K1.out
        obtain ⟨b, rfl, y0, y1⟩ := HCS.out w1 K1.out
        clear k1 bx HBS2 c3
        go_wp2
        refine wp_region_any hmx ?_
        change wpAny Tryd.prog _ _ _ _ _ _ w1.drew
        refine wpAny_take (i := 0) (v := (.bool true)) rfl (by kernel_rfl) (by kernel_rfl) (by kernel_rfl) (fun _ _ _ h => h) (Or.inl ⟨by rfl, (by intro w; go_simp; try rfl)⟩) ?_; (try go_simp)
        refine wpAny_take (i := 1) (v := (.bool false)) rfl (by kernel_rfl) (by kernel_rfl) (by kernel_rfl) (fun _ _ _ h => h) (Or.inl ⟨by rfl, (by intro w; go_simp; try rfl)⟩) ?_; (try go_simp)
        refine wpAny_take (i := 2) (v := (.bool false)) rfl (by kernel_rfl) (by kernel_rfl) (by kernel_rfl) (fun _ _ _ h => h) (Or.inl ⟨by rfl, (by intro w; go_simp; try rfl)⟩) ?_; (try go_simp)
        refine wpAny_take (i := 3) (v := (.pointer (some ⟨g, 0, none⟩))) rfl (by kernel_rfl) (by kernel_rfl) (by kernel_rfl) (fun _ _ _ h => h) (Or.inl ⟨by rfl, (by intro w; go_simp; try rfl)⟩) ?_; (try go_simp)
        refine wpAny_take (i := 4) (v := (.pointer (some ⟨g, 0, none⟩))) rfl (by kernel_rfl) (by kernel_rfl) (by kernel_rfl) (fun _ _ _ h => h) (Or.inl ⟨by rfl, (by intro w; go_simp; try rfl)⟩) ?_; (try go_simp)
        refine wpAny_take (i := 5) (v := (.pointer (some ⟨g, 3, none⟩))) rfl (by kernel_rfl) (by kernel_rfl) (by kernel_rfl) (fun _ _ _ h => h) (Or.inl ⟨by rfl, (by intro w; go_simp; try rfl)⟩) ?_; (try go_simp)
        refine wpAny_take (i := 7) (v := (.int .i64 (i : Int))) rfl (by kernel_rfl) (by kernel_rfl) (by kernel_rfl) (fun _ _ _ h => h) (Or.inl ⟨by rfl, (by intro w; go_simp; try rfl)⟩) ?_; (try go_simp)
        refine wpAny_ready (rs := [6, 10]) (by kernel_rfl) (by simp) ?_; refine (AllReady.cons rfl (fun K hK => ?_) (AllReady.cons rfl (fun K hK => ?_) AllReady.nil))
        · go_simp; refine hK _ _ ?_; clear hK K; (try go_simp)
          refine wpAny_take (i := 8) (v := (.pointer (some ⟨b, i * 2, none⟩))) rfl (by kernel_rfl) (by kernel_rfl) (by kernel_rfl) (fun _ _ _ h => h) (Or.inl ⟨by rfl, (by intro w; go_simp; try rfl)⟩) ?_; (try go_simp)
          refine wpAny_ready (rs := [9, 10]) (by kernel_rfl) (by simp) ?_; refine (AllReady.cons rfl (fun K hK => ?_) (AllReady.cons rfl (fun K hK => ?_) AllReady.nil))
          · go_simp; refine hK _ _ ?_; clear hK K; (try go_simp)
            refine wpAny_ready (rs := [10]) (by kernel_rfl) (by simp) ?_; refine (AllReady.cons rfl (fun K hK => ?_) AllReady.nil)
            go_simp; refine hK _ _ ?_; clear hK K; (try go_simp)
            refine wpAny_take (i := 11) (v := (.bool false)) rfl (by kernel_rfl) (by kernel_rfl) (by kernel_rfl) (fun _ _ _ h => h) (Or.inl ⟨by rfl, (by intro w; go_simp; try rfl)⟩) ?_; (try go_simp)
            refine wpAny_take (i := 12) (v := (.bool false)) rfl (by kernel_rfl) (by kernel_rfl) (by kernel_rfl) (fun _ _ _ h => h) (Or.inl ⟨by rfl, (by intro w; go_simp; try rfl)⟩) ?_; (try go_simp)
            refine wpAny_done (by kernel_rfl) ?_ _
            go_wp2
            go_region_held3 (fun w' => w'.cell? ⟨g, 2, none⟩ = some (.slice ba BN bc) ∧ w'.cell? ⟨w.heap.size, 0, none⟩ = some (.int .i64 (a : Int)) ∧ w'.cell? ⟨w.heap.size, 1, none⟩ = some (.int .i64 (cn : Int)))
              (first | go_keep | (go_split_ands; exact ⟨by assumption, by assumption, by assumption⟩))
              ((go_at_call 39; go_must (refine (HCl.out _ K1.out.drew.drew).mono ?_; rintro e w2 ⟨u, rfl, ho2, k2⟩; have K2 := hidden (Kept.trans K1.out.drew.drew k2); have HO2 := hidden ho2; have y2 : w2.cell? ⟨g, 2, none⟩ = some (.slice ba BN bc) := Kept.cell k2 (fun h => h) (by simpa using d2); have y0' : w2.cell? ⟨w.heap.size, 0, none⟩ = some (.int .i64 (a : Int)) := Kept.cell k2 (fun h => h) (by simpa using x0); have y1' : w2.cell? ⟨w.heap.size, 1, none⟩ = some (.int .i64 (cn : Int)) := Kept.cell k2 (fun h => h) (by simpa using x1); clear k2 ho2)))
            go_wp2
            go_returns
            exact ⟨u, rfl, Bt.ownM (OwnM.of HO2.out), K2.out⟩
          · go_simp; refine hK _ _ ?_; clear hK K; (try go_simp)
            refine wpAny_ready (rs := [9]) (by kernel_rfl) (by simp) ?_; refine (AllReady.cons rfl (fun K hK => ?_) AllReady.nil)
            go_simp; refine hK _ _ ?_; clear hK K; (try go_simp)
            refine wpAny_take (i := 11) (v := (.bool false)) rfl (by kernel_rfl) (by kernel_rfl) (by kernel_rfl) (fun _ _ _ h => h) (Or.inl ⟨by rfl, (by intro w; go_simp; try rfl)⟩) ?_; (try go_simp)
            refine wpAny_take (i := 12) (v := (.bool false)) rfl (by kernel_rfl) (by kernel_rfl) (by kernel_rfl) (fun _ _ _ h => h) (Or.inl ⟨by rfl, (by intro w; go_simp; try rfl)⟩) ?_; (try go_simp)
            refine wpAny_done (by kernel_rfl) ?_ _
            go_wp2
            go_region_held3 (fun w' => w'.cell? ⟨g, 2, none⟩ = some (.slice ba BN bc) ∧ w'.cell? ⟨w.heap.size, 0, none⟩ = some (.int .i64 (a : Int)) ∧ w'.cell? ⟨w.heap.size, 1, none⟩ = some (.int .i64 (cn : Int)))
              (first | go_keep | (go_split_ands; exact ⟨by assumption, by assumption, by assumption⟩))
              ((go_at_call 39; go_must (refine (HCl.out _ K1.out.drew.drew).mono ?_; rintro e w2 ⟨u, rfl, ho2, k2⟩; have K2 := hidden (Kept.trans K1.out.drew.drew k2); have HO2 := hidden ho2; have y2 : w2.cell? ⟨g, 2, none⟩ = some (.slice ba BN bc) := Kept.cell k2 (fun h => h) (by simpa using d2); have y0' : w2.cell? ⟨w.heap.size, 0, none⟩ = some (.int .i64 (a : Int)) := Kept.cell k2 (fun h => h) (by simpa using x0); have y1' : w2.cell? ⟨w.heap.size, 1, none⟩ = some (.int .i64 (cn : Int)) := Kept.cell k2 (fun h => h) (by simpa using x1); clear k2 ho2)))
            go_wp2
            go_returns
            exact ⟨u, rfl, Bt.ownM (OwnM.of HO2.out), K2.out⟩
        · go_simp; refine hK _ _ ?_; clear hK K; (try go_simp)
          refine wpAny_ready (rs := [6]) (by kernel_rfl) (by simp) ?_; refine (AllReady.cons rfl (fun K hK => ?_) AllReady.nil)
          go_simp; refine hK _ _ ?_; clear hK K; (try go_simp)
          refine wpAny_take (i := 8) (v := (.pointer (some ⟨b, i * 2, none⟩))) rfl (by kernel_rfl) (by kernel_rfl) (by kernel_rfl) (fun _ _ _ h => h) (Or.inl ⟨by rfl, (by intro w; go_simp; try rfl)⟩) ?_; (try go_simp)
          refine wpAny_ready (rs := [9]) (by kernel_rfl) (by simp) ?_; refine (AllReady.cons rfl (fun K hK => ?_) AllReady.nil)
          go_simp; refine hK _ _ ?_; clear hK K; (try go_simp)
          refine wpAny_take (i := 11) (v := (.bool false)) rfl (by kernel_rfl) (by kernel_rfl) (by kernel_rfl) (fun _ _ _ h => h) (Or.inl ⟨by rfl, (by intro w; go_simp; try rfl)⟩) ?_; (try go_simp)
          refine wpAny_take (i := 12) (v := (.bool false)) rfl (by kernel_rfl) (by kernel_rfl) (by kernel_rfl) (fun _ _ _ h => h) (Or.inl ⟨by rfl, (by intro w; go_simp; try rfl)⟩) ?_; (try go_simp)
          refine wpAny_done (by kernel_rfl) ?_ _
          go_wp2
          go_region_held3 (fun w' => w'.cell? ⟨g, 2, none⟩ = some (.slice ba BN bc) ∧ w'.cell? ⟨w.heap.size, 0, none⟩ = some (.int .i64 (a : Int)) ∧ w'.cell? ⟨w.heap.size, 1, none⟩ = some (.int .i64 (cn : Int)))
            (first | go_keep | (go_split_ands; exact ⟨by assumption, by assumption, by assumption⟩))
            ((go_at_call 39; go_must (refine (HCl.out _ K1.out.drew.drew).mono ?_; rintro e w2 ⟨u, rfl, ho2, k2⟩; have K2 := hidden (Kept.trans K1.out.drew.drew k2); have HO2 := hidden ho2; have y2 : w2.cell? ⟨g, 2, none⟩ = some (.slice ba BN bc) := Kept.cell k2 (fun h => h) (by simpa using d2); have y0' : w2.cell? ⟨w.heap.size, 0, none⟩ = some (.int .i64 (a : Int)) := Kept.cell k2 (fun h => h) (by simpa using x0); have y1' : w2.cell? ⟨w.heap.size, 1, none⟩ = some (.int .i64 (cn : Int)) := Kept.cell k2 (fun h => h) (by simpa using x1); clear k2 ho2)))
          go_wp2
          go_returns
          exact ⟨u, rfl, Bt.ownM (OwnM.of HO2.out), K2.out⟩
    · rw [if_neg hn]
      clear hc2 hc4 HO HB
      go_enter Tryd.func30, Tryd.ntmps30
      go_wp2_with (go_at_call 38; refine (A.out _ (same_alloc _ _)).mono ?_; rintro e w0 ⟨rfl, rfl⟩)
      go_region_law (refine step_call rfl 60 #[.slice va SN vc, .agg #[.int .i64 (a : Int), .int .i64 n], .func (.func 61) #[] #[]] (fun u W => u = .tuple #[.int .i64 i, .bool true] ∧ Same (w.alloc (.cells #[.int .i64 (a : Int), .int .i64 n] 34)) W) (by go_simp; try rfl) ((HBS2.out _ ((same_alloc _ _).drew)).mono (fun e w' ⟨h1, h3⟩ => ⟨_, h1, rfl, ⟨h3.os, h3.tape, h3.output, h3.size, h3.block⟩⟩)) ?_; rintro u w1 ⟨rfl, k1⟩)
      all_goals
        have K1 := hidden (Kept.trans (same_alloc w _) k1)
        have bx := blk_kept k1 (fun h => h) (blk_new w _)
        have x0 : w1.cell? ⟨w.heap.size, 0, none⟩ = some (.int .i64 (a : Int)) := blk_cell bx
        have x1 : w1.cell? ⟨w.heap.size, 1, none⟩ = some (.int .i64 n) := blk_cell bx
        have d3 := D3.out w1 K1.out
        obtain ⟨b, rfl, y0, y1⟩ := HCS.out w1 K1.out
        clear k1 bx HBS2 c3
        go_wp2
        refine wp_region_any hmx ?_
        change wpAny Tryd.prog _ _ _ _ _ _ w1.drew
        refine wpAny_take (i := 0) (v := (.bool true)) rfl (by kernel_rfl) (by kernel_rfl) (by kernel_rfl) (fun _ _ _ h => h) (Or.inl ⟨by rfl, (by intro w; go_simp; try rfl)⟩) ?_; (try go_simp)
        refine wpAny_take (i := 1) (v := (.bool false)) rfl (by kernel_rfl) (by kernel_rfl) (by kernel_rfl) (fun _ _ _ h => h) (Or.inl ⟨by rfl, (by intro w; go_simp; try rfl)⟩) ?_; (try go_simp)
        refine wpAny_take (i := 2) (v := (.bool false)) rfl (by kernel_rfl) (by kernel_rfl) (by kernel_rfl) (fun _ _ _ h => h) (Or.inl ⟨by rfl, (by intro w; go_simp; try rfl)⟩) ?_; (try go_simp)
        refine wpAny_take (i := 3) (v := (.pointer (some ⟨g, 0, none⟩))) rfl (by kernel_rfl) (by kernel_rfl) (by kernel_rfl) (fun _ _ _ h => h) (Or.inl ⟨by rfl, (by intro w; go_simp; try rfl)⟩) ?_; (try go_simp)
        refine wpAny_take (i := 4) (v := (.pointer (some ⟨g, 0, none⟩))) rfl (by kernel_rfl) (by kernel_rfl) (by kernel_rfl) (fun _ _ _ h => h) (Or.inl ⟨by rfl, (by intro w; go_simp; try rfl)⟩) ?_; (try go_simp)
        refine wpAny_take (i := 5) (v := (.pointer (some ⟨g, 3, none⟩))) rfl (by kernel_rfl) (by kernel_rfl) (by kernel_rfl) (fun _ _ _ h => h) (Or.inl ⟨by rfl, (by intro w; go_simp; try rfl)⟩) ?_; (try go_simp)
        refine wpAny_take (i := 7) (v := (.int .i64 (i : Int))) rfl (by kernel_rfl) (by kernel_rfl) (by kernel_rfl) (fun _ _ _ h => h) (Or.inl ⟨by rfl, (by intro w; go_simp; try rfl)⟩) ?_; (try go_simp)
        refine wpAny_ready (rs := [6, 10]) (by kernel_rfl) (by simp) ?_; refine (AllReady.cons rfl (fun K hK => ?_) (AllReady.cons rfl (fun K hK => ?_) AllReady.nil))
        · go_simp; refine hK _ _ ?_; clear hK K; (try go_simp)
          refine wpAny_take (i := 8) (v := (.pointer (some ⟨b, i * 2, none⟩))) rfl (by kernel_rfl) (by kernel_rfl) (by kernel_rfl) (fun _ _ _ h => h) (Or.inl ⟨by rfl, (by intro w; go_simp; try rfl)⟩) ?_; (try go_simp)
          refine wpAny_ready (rs := [9, 10]) (by kernel_rfl) (by simp) ?_; refine (AllReady.cons rfl (fun K hK => ?_) (AllReady.cons rfl (fun K hK => ?_) AllReady.nil))
          · go_simp; refine hK _ _ ?_; clear hK K; (try go_simp)
            refine wpAny_ready (rs := [10]) (by kernel_rfl) (by simp) ?_; refine (AllReady.cons rfl (fun K hK => ?_) AllReady.nil)
            go_simp; refine hK _ _ ?_; clear hK K; (try go_simp)
            refine wpAny_take (i := 11) (v := (.bool true)) rfl (by kernel_rfl) (by kernel_rfl) (by kernel_rfl) (fun _ _ _ h => h) (Or.inl ⟨by rfl, (by intro w; go_simp; try rfl)⟩) ?_; (try go_simp)
            refine wpAny_take (i := 12) (v := (.bool true)) rfl (by kernel_rfl) (by kernel_rfl) (by kernel_rfl) (fun _ _ _ h => h) (Or.inl ⟨by rfl, (by intro w; go_simp; try rfl)⟩) ?_; (try go_simp)
            refine wpAny_done (by kernel_rfl) ?_ _
            go_wp2
            go_returns
            exact ⟨_, rfl, Bt.nil _, K1.out.drew⟩
          · go_simp; refine hK _ _ ?_; clear hK K; (try go_simp)
            refine wpAny_ready (rs := [9]) (by kernel_rfl) (by simp) ?_; refine (AllReady.cons rfl (fun K hK => ?_) AllReady.nil)
            go_simp; refine hK _ _ ?_; clear hK K; (try go_simp)
            refine wpAny_take (i := 11) (v := (.bool true)) rfl (by kernel_rfl) (by kernel_rfl) (by kernel_rfl) (fun _ _ _ h => h) (Or.inl ⟨by rfl, (by intro w; go_simp; try rfl)⟩) ?_; (try go_simp)
            refine wpAny_take (i := 12) (v := (.bool true)) rfl (by kernel_rfl) (by kernel_rfl) (by kernel_rfl) (fun _ _ _ h => h) (Or.inl ⟨by rfl, (by intro w; go_simp; try rfl)⟩) ?_; (try go_simp)
            refine wpAny_done (by kernel_rfl) ?_ _
            go_wp2
            go_returns
            exact ⟨_, rfl, Bt.nil _, K1.out.drew⟩
        · go_simp; refine hK _ _ ?_; clear hK K; (try go_simp)
          refine wpAny_ready (rs := [6]) (by kernel_rfl) (by simp) ?_; refine (AllReady.cons rfl (fun K hK => ?_) AllReady.nil)
          go_simp; refine hK _ _ ?_; clear hK K; (try go_simp)
          refine wpAny_take (i := 8) (v := (.pointer (some ⟨b, i * 2, none⟩))) rfl (by kernel_rfl) (by kernel_rfl) (by kernel_rfl) (fun _ _ _ h => h) (Or.inl ⟨by rfl, (by intro w; go_simp; try rfl)⟩) ?_; (try go_simp)
          refine wpAny_ready (rs := [9]) (by kernel_rfl) (by simp) ?_; refine (AllReady.cons rfl (fun K hK => ?_) AllReady.nil)
          go_simp; refine hK _ _ ?_; clear hK K; (try go_simp)
          refine wpAny_take (i := 11) (v := (.bool true)) rfl (by kernel_rfl) (by kernel_rfl) (by kernel_rfl) (fun _ _ _ h => h) (Or.inl ⟨by rfl, (by intro w; go_simp; try rfl)⟩) ?_; (try go_simp)
          refine wpAny_take (i := 12) (v := (.bool true)) rfl (by kernel_rfl) (by kernel_rfl) (by kernel_rfl) (fun _ _ _ h => h) (Or.inl ⟨by rfl, (by intro w; go_simp; try rfl)⟩) ?_; (try go_simp)
          refine wpAny_done (by kernel_rfl) ?_ _
          go_wp2
          go_returns
          exact ⟨_, rfl, Bt.nil _, K1.out.drew⟩
  · have hf : (s.slots.any fun x => decide ((x.1 : Int) = o)) = false := by simpa using hany
    rw [hf] at HBS
    have HBS2 : Hid (∀ W, Same w W → Calls Tryd.prog 60 #[.slice va s.slots.length vc, .agg #[.int .i64 o, .int .i64 n], .func (.func 61) #[] #[]] W fun e w' => ∃ i : Nat, e = .returned (.tuple #[.int .i64 i, .bool false]) ∧ Same W w') := hidden (fun W k => (HBS.out W k _ (HS.out.same k)).mono fun e w' ⟨i, h1, h2, h3⟩ => ⟨i, h1, h3⟩)
    rw [PSt.read_none hf]
    clear HBS hany hf hsl
    go_enter Tryd.func30, Tryd.ntmps30
    go_wp2_with (go_at_call 38; refine (A.out _ (same_alloc _ _)).mono ?_; rintro e w0 ⟨rfl, rfl⟩)
    go_region_law (refine step_call rfl 60 #[.slice va s.slots.length vc, .agg #[.int .i64 o, .int .i64 n], .func (.func 61) #[] #[]] (fun u W => ∃ i : Nat, u = .tuple #[.int .i64 i, .bool false] ∧ Same (w.alloc (.cells #[.int .i64 o, .int .i64 n] 34)) W) (by go_simp; try rfl) ((HBS2.out _ ((same_alloc _ _).drew)).mono (fun e w' ⟨i, h1, h3⟩ => ⟨_, h1, i, rfl, ⟨h3.os, h3.tape, h3.output, h3.size, h3.block⟩⟩)) ?_; rintro u w1 ⟨i, rfl, k1⟩)
    all_goals
      have K1 := hidden (Kept.trans (same_alloc w _) k1)
      clear k1
      go_wp2
      refine wp_region_any hmx ?_
      change wpAny Tryd.prog _ _ _ _ _ _ w1.drew
      refine wpAny_take (i := 0) (v := (.bool false)) rfl (by kernel_rfl) (by kernel_rfl) (by kernel_rfl) (fun _ _ _ h => h) (Or.inl ⟨by rfl, (by intro w; go_simp; try rfl)⟩) ?_; (try go_simp)
      refine wpAny_take (i := 1) (v := (.bool true)) rfl (by kernel_rfl) (by kernel_rfl) (by kernel_rfl) (fun _ _ _ h => h) (Or.inl ⟨by rfl, (by intro w; go_simp; try rfl)⟩) ?_; (try go_simp)
      refine wpAny_take (i := 2) (v := (.bool true)) rfl (by kernel_rfl) (by kernel_rfl) (by kernel_rfl) (fun _ _ _ h => h) (Or.inl ⟨by rfl, (by intro w; go_simp; try rfl)⟩) ?_; (try go_simp)
      refine wpAny_take (i := 3) (v := undef) rfl (by kernel_rfl) (by kernel_rfl) (by kernel_rfl) (fun _ _ _ h => h) (Or.inr ⟨by rfl, rfl⟩) ?_; (try go_simp)
      refine wpAny_take (i := 4) (v := undef) rfl (by kernel_rfl) (by kernel_rfl) (by kernel_rfl) (fun _ _ _ h => h) (Or.inr ⟨by rfl, rfl⟩) ?_; (try go_simp)
      refine wpAny_take (i := 5) (v := undef) rfl (by kernel_rfl) (by kernel_rfl) (by kernel_rfl) (fun _ _ _ h => h) (Or.inr ⟨by rfl, rfl⟩) ?_; (try go_simp)
      refine wpAny_take (i := 6) (v := undef) rfl (by kernel_rfl) (by kernel_rfl) (by kernel_rfl) (fun _ _ _ h => h) (Or.inr ⟨by rfl, rfl⟩) ?_; (try go_simp)
      refine wpAny_take (i := 7) (v := undef) rfl (by kernel_rfl) (by kernel_rfl) (by kernel_rfl) (fun _ _ _ h => h) (Or.inr ⟨by rfl, rfl⟩) ?_; (try go_simp)
      refine wpAny_take (i := 8) (v := undef) rfl (by kernel_rfl) (by kernel_rfl) (by kernel_rfl) (fun _ _ _ h => h) (Or.inr ⟨by rfl, rfl⟩) ?_; (try go_simp)
      refine wpAny_take (i := 9) (v := undef) rfl (by kernel_rfl) (by kernel_rfl) (by kernel_rfl) (fun _ _ _ h => h) (Or.inr ⟨by rfl, rfl⟩) ?_; (try go_simp)
      refine wpAny_take (i := 10) (v := undef) rfl (by kernel_rfl) (by kernel_rfl) (by kernel_rfl) (fun _ _ _ h => h) (Or.inr ⟨by rfl, rfl⟩) ?_; (try go_simp)
      refine wpAny_take (i := 11) (v := undef) rfl (by kernel_rfl) (by kernel_rfl) (by kernel_rfl) (fun _ _ _ h => h) (Or.inr ⟨by rfl, rfl⟩) ?_; (try go_simp)
      refine wpAny_take (i := 12) (v := (.bool true)) rfl (by kernel_rfl) (by kernel_rfl) (by kernel_rfl) (fun _ _ _ h => h) (Or.inl ⟨by rfl, (by intro w; go_simp; try rfl)⟩) ?_; (try go_simp)
      refine wpAny_done (by kernel_rfl) ?_ _
      go_wp2
      go_returns
      exact ⟨_, rfl, Bt.nil _, K1.out.drew⟩
end Go.Proofs.YtafdkfieajdeiaaDoor
