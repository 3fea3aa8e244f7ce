/- pack: slices.BinarySearchFunc over slots. -/
import Derived.Test.YtafdkfieajdeiaaDoorK5
import Derived.Deep.RegionWith
namespace Go.Proofs.YtafdkfieajdeiaaDoor
open Go.RowKit
set_option linter.unusedVariables false

set_option maxHeartbeats 1000000 in
set_option maxRecDepth 100000 in
theorem isNaN_i (x : Int) (w : World) : Calls Tryd.prog 75 #[.int .i64 x] w fun e w' => e = .returned (.bool false) ∧ w = w' := by
  go_enter Tryd.func75, Tryd.ntmps75
  go_wp2
  go_returns
  exact ⟨by first | rfl | simp, rfl⟩
def cmpI (x y : Int) : Int := if x < y then -1 else if y < x then 1 else 0
set_option maxHeartbeats 1000000 in
set_option maxRecDepth 100000 in
theorem cmp_int (x y : Int) (w : World) : Calls Tryd.prog 62 #[.int .i64 x, .int .i64 y] w fun e w' => e = .returned (.int .i64 (cmpI x y)) ∧ w = w' := by
  rcases Int.lt_trichotomy x y with h | h | h
  · rw [show cmpI x y = -1 by unfold cmpI; rw [if_pos h]]
    go_enter Tryd.func62, Tryd.ntmps62
    go_wp2_with (go_at_call 75; refine (isNaN_i _ _).mono ?_; rintro e w1 ⟨rfl, rfl⟩)
    go_returns
    exact ⟨rfl, rfl⟩
  · subst h
    rw [show cmpI x x = 0 by unfold cmpI; rw [if_neg (by omega), if_neg (by omega)]]
    go_enter Tryd.func62, Tryd.ntmps62
    go_wp2_with (go_at_call 75; refine (isNaN_i _ _).mono ?_; rintro e w1 ⟨rfl, rfl⟩)
    go_returns
    exact ⟨rfl, rfl⟩
  · rw [show cmpI x y = 1 by unfold cmpI; rw [if_neg (by omega), if_pos h]]
    go_enter Tryd.func62, Tryd.ntmps62
    go_wp2_with (go_at_call 75; refine (isNaN_i _ _).mono ?_; rintro e w1 ⟨rfl, rfl⟩)
    go_returns
    exact ⟨rfl, rfl⟩
set_option maxHeartbeats 1000000 in
set_option maxRecDepth 100000 in
theorem read1 (a b c d : Int) (w : World) : Calls Tryd.prog 61 #[.agg #[.int .i64 a, .int .i64 b], .agg #[.int .i64 c, .int .i64 d]] w fun e w' => e = .returned (.int .i64 (cmpI a c)) ∧ Same w w' := by
  go_enter Tryd.func61, Tryd.ntmps61
  go_wp2_with (go_at_call 62; refine (cmp_int _ _ _).mono ?_; rintro e w1 ⟨rfl, rfl⟩)
  go_returns
  exact ⟨rfl, (same_alloc _ _).alloc _⟩
theorem cmpI_lt (x y : Int) : decide (cmpI x y < 0) = decide (x < y) := by
  unfold cmpI
  split
  · simp_all
  · split <;> simp_all
theorem cmpI_eq (x y : Int) : (cmpI x y == 0) = decide (x = y) := by
  unfold cmpI
  rcases Int.lt_trichotomy x y with h | h | h
  · rw [if_pos h, decide_eq_false (by omega)]; rfl
  · subst h; rw [if_neg (by omega), if_neg (by omega)]; simp
  · rw [if_neg (by omega), if_pos h, decide_eq_false (by omega)]; rfl
/-- Slots that rise. -/
def RiseS (l : List (Nat × Nat)) : Prop := ∀ i j (hi : i < l.length) (hj : j < l.length), i < j → l[i].1 < l[j].1
theorem slot_cell {l : List (Nat × Nat)} {i : Nat} (h : i < l.length) : (slotCells l)[i * 2]? = some (.int .i64 (l[i].1 : Nat)) ∧ (slotCells l)[i * 2 + 1]? = some (.int .i64 (l[i].2 : Nat)) := by
  induction l generalizing i with
  | nil => simp at h
  | cons a l ih =>
    cases i with
    | zero => exact ⟨rfl, rfl⟩
    | succ i =>
      have := ih (i := i) (by simpa using h)
      rw [show (i + 1) * 2 = i * 2 + 2 by omega, show i * 2 + 2 + 1 = i * 2 + 1 + 2 by omega]
      simpa [slotCells] using this
theorem step_callG {P : Program} {ops : Array Oper} {o : Oper} {a : Act} {w : World} {K : Act → World → Prop} {Q : Exit → Act → World → Prop} {E : Prop}
    (hw : Region.wanted o (yielded ops a.tmps) = true) (f : FuncId) (vals : Array Value) (R : Value → World → Prop)
    (hrun : (execOp a.eval o).run P w = .ok (.enter f vals) w) (hc : Calls P f vals w fun e w' => ∃ v, e = .returned v ∧ R v w')
    (hK : ∀ v w', R v w' → K (a.put o.dst v) w') :
    if Region.wanted o (yielded ops a.tmps) = true then Oper.wp P o a w K Q else E := by
  rw [if_pos hw]
  unfold Oper.wp
  rw [hrun, Oper.upon_enter]
  refine hc.mono ?_
  rintro e w' ⟨v, rfl, hR⟩
  exact hK v w' hR
theorem any_at {l : List (Nat × Nat)} {k : Int} (hs : RiseS l) {i : Nat} (hi : i ≤ l.length) (h1 : ∀ t (ht : t < l.length), t < i → (l[t].1 : Int) < k) (h2 : ∀ t (ht : t < l.length), i ≤ t → k ≤ (l[t].1 : Int)) :
    (∀ (h : i < l.length), (l.any fun s => decide ((s.1 : Int) = k)) = decide ((l[i].1 : Int) = k)) ∧ (¬ i < l.length → (l.any fun s => decide ((s.1 : Int) = k)) = false) ∧ ∀ s ∈ l, (s.1 : Int) = k → l[i]? = some s := by
  have key : ∀ t (ht : t < l.length), (l[t].1 : Int) = k → t = i := fun t ht e => by
    rcases Nat.lt_trichotomy t i with h | h | h
    · have := h1 t ht h; omega
    · exact h
    · have hi' : i < l.length := by omega
      have := hs i t hi' ht h
      have := h2 i hi' (Nat.le_refl _)
      omega
  refine ⟨fun h => ?_, fun h => ?_, fun s hm e => ?_⟩
  · by_cases hk : (l[i].1 : Int) = k
    · rw [decide_eq_true hk, List.any_eq_true]
      exact ⟨l[i], List.getElem_mem _, by simpa using hk⟩
    · rw [decide_eq_false hk, List.any_eq_false]
      intro s hm
      obtain ⟨t, ht, rfl⟩ := List.getElem_of_mem hm
      simp only [decide_eq_true_eq]
      intro e
      have := key t ht e
      subst this
      exact hk e
  · rw [List.any_eq_false]
    intro s hm
    obtain ⟨t, ht, rfl⟩ := List.getElem_of_mem hm
    simp only [decide_eq_true_eq]
    intro e
    have := key t ht e
    omega
  · obtain ⟨t, ht, rfl⟩ := List.getElem_of_mem hm
    have := key t ht e
    subst this
    exact List.getElem?_eq_getElem ht
set_option maxHeartbeats 4000000 in
set_option maxRecDepth 100000 in
theorem bsf_any (k m : Int) {l : List (Nat × Nat)} {v : Value} {w : World} (h : OwnM w 34 2 v l.length (slotCells l)) (hs : RiseS l) (hl : l.length ≤ 140737488355328) :
    Calls Tryd.prog 60 #[v, .agg #[.int .i64 k, .int .i64 m], .func (.func 61) #[] #[]] w fun e w' => ∃ i : Nat, e = .returned (.tuple #[.int .i64 i, .bool (l.any fun s => decide ((s.1 : Int) = k))]) ∧ (∀ s ∈ l, (s.1 : Int) = k → l[i]? = some s) ∧ Same w w' := by
  obtain ⟨ao, cap, rfl, hcap⟩ := h.form
  have HC : Hid (∀ W, Same w W → ∀ i (hi : i < l.length), ∃ b, ao = some ⟨b, 0, none⟩ ∧ W.cell? ⟨b, i * 2, none⟩ = some (.int .i64 (l[i].1 : Nat)) ∧ W.cell? ⟨b, i * 2 + 1, none⟩ = some (.int .i64 (l[i].2 : Nat))) := fun W kk i hi => by
    have h2 := h.same kk
    rcases h2.ex with ⟨_, e⟩ | ⟨b, cp, cur, fz, e, _⟩
    · omega
    · simp only [Value.slice.injEq] at e
      obtain ⟨rfl, _, rfl⟩ := e
      obtain ⟨q1, q2⟩ := slot_cell hi
      exact ⟨b, rfl, h2.cells (g := b) rfl _ _ q1, h2.cells (g := b) rfl _ _ q2⟩
  have HRS := hidden hs
  obtain ⟨n, hn⟩ : ∃ n, l.length = n := ⟨_, rfl⟩
  have HN := hidden hn
  rw [hn] at hl ⊢
  have H1 := hidden (fun a b W => read1 a b k m W)
  clear h hs hn
  go_enter Tryd.func60, Tryd.ntmps60
  go_wp2
  go_loopw [9, 10] (fun iv jv wr => ∃ (i j : Nat), i ≤ j ∧ j ≤ n ∧ iv = .int .i64 i ∧ jv = .int .i64 j ∧ (∀ t (ht : t < l.length), t < i → (l[t].1 : Int) < k) ∧ (∀ t (ht : t < l.length), j ≤ t → k ≤ (l[t].1 : Int)) ∧ Same (w.alloc (.cells #[.int .i64 k, .int .i64 m] 34)) wr) (fun iv jv _ => (intOf jv).toNat - (intOf iv).toNat)
  case atStart => exact ⟨0, n, Nat.zero_le _, Nat.le_refl _, rfl, rfl, fun t ht h => by omega, fun t ht h => by rw [HN.out] at ht; omega, Kept.refl _ _⟩
  case round =>
    obtain ⟨i, j, hij, hjn, rfl, rfl, hS1, hS2, hK⟩ := hrel
    have HK := hidden hK
    have HKw := hidden (Kept.trans (same_alloc w _) hK)
    have bx := blk_kept hK (fun h => h) (blk_new w _)
    have x0 : wr.cell? ⟨w.heap.size, 0, none⟩ = some (.int .i64 k) := blk_cell bx
    have x1 : wr.cell? ⟨w.heap.size, 1, none⟩ = some (.int .i64 m) := blk_cell bx
    have H2 := hidden hS1
    have H3 := hidden hS2
    clear hS1 hS2 hK bx
    by_cases h1 : i < j
    · obtain ⟨c, hc⟩ : ∃ c, (i + j) / 2 = c := ⟨_, rfl⟩
      have hml : c < l.length := by rw [HN.out]; omega
      obtain ⟨b, rfl, y0, y1⟩ := HC.out wr HKw.out c hml
      obtain ⟨e1, he1⟩ : ∃ e, l[c].1 = e := ⟨_, rfl⟩
      obtain ⟨e2, he2⟩ : ∃ e, l[c].2 = e := ⟨_, rfl⟩
      rw [he1] at y0
      rw [he2] at y1
      have HE1 := hidden he1
      have q1 : (i : Int) < (j : Int) := by omega
      have q2 : ((i : Int) + (j : Int)) / 2 = (c : Int) := by omega
      have q3 : (c : Int) < (n : Int) := by omega
      have q4 : (0 : Int) ≤ (c : Int) := Int.natCast_nonneg _
      have HQM : Hid (i ≤ c ∧ c < j) := by rw [Hid]; omega
      have hcl := cmpI_lt (e1 : Int) k
      obtain ⟨z, hz⟩ : ∃ z, cmpI (e1 : Int) k = z := ⟨_, rfl⟩
      have HZ := hidden hz
      rw [hz] at hcl
      clear he1 he2 hz hc
      go_wp2
      go_region_law (refine step_call rfl 61 #[.agg #[.int .i64 (e1 : Int), .int .i64 (e2 : Int)], .agg #[.int .i64 k, .int .i64 m]] (fun u W => u = .int .i64 z ∧ Same wr W) (by go_simp; try rfl) ((H1.out _ _ _).mono (fun e w' ⟨h1, h2⟩ => ⟨_, h1, by rw [HZ.out], ⟨h2.os, h2.tape, h2.output, h2.size, h2.block⟩⟩)) ?_; rintro u w2 ⟨rfl, k2⟩)
      all_goals
        have KK := hidden (Kept.trans HK.out k2)
        clear k2 x0 x1 y0 y1
        by_cases hlt : (e1 : Int) < k
        · have hz0 : z < 0 := by simpa [hlt] using hcl
          clear hcl
          go_wp2
          go_roundw
          case rel =>
            refine ⟨c + 1, j, by have := HQM.out; omega, hjn, by go_num, rfl, fun t ht hti => ?_, H3.out, KK.out⟩
            rcases Nat.lt_or_ge t c with h | h
            · have := HRS.out t c ht hml h
              rw [HE1.out] at this
              omega
            · obtain rfl : t = c := by omega
              rw [HE1.out]; exact hlt
          case measure => have := HQM.out; simp [intOf]; omega
        · have hz0 : ¬ z < 0 := by simpa [hlt] using hcl
          clear hcl
          go_wp2
          go_roundw
          case rel =>
            refine ⟨i, c, HQM.out.1, by have := HQM.out; omega, rfl, rfl, H2.out, fun t ht hti => ?_, KK.out⟩
            rcases Nat.lt_or_ge c t with h | h
            · have := HRS.out c t hml ht h
              rw [HE1.out] at this
              omega
            · obtain rfl : t = c := by omega
              rw [HE1.out]; omega
          case measure => have := HQM.out; simp [intOf]; omega
    · obtain rfl : i = j := by omega
      have q1 : ¬ (i : Int) < (i : Int) := by omega
      obtain ⟨hat, hou, hwh⟩ := any_at (k := k) HRS.out (i := i) (by rw [HN.out]; exact hjn) H2.out H3.out
      have HW := hidden hwh
      by_cases h2 : i < n
      · have hil : i < l.length := by rw [HN.out]; exact h2
        have hb2 := hat hil
        obtain ⟨b, rfl, y0, y1⟩ := HC.out wr HKw.out i hil
        obtain ⟨e1, he1⟩ : ∃ e, l[i].1 = e := ⟨_, rfl⟩
        obtain ⟨e2, he2⟩ : ∃ e, l[i].2 = e := ⟨_, rfl⟩
        rw [he1] at y0 hb2
        rw [he2] at y1
        have q2 : (i : Int) < (n : Int) := by omega
        have q4 : (0 : Int) ≤ (i : Int) := Int.natCast_nonneg _
        have hce := cmpI_eq (e1 : Int) k
        obtain ⟨z, hz⟩ : ∃ z, cmpI (e1 : Int) k = z := ⟨_, rfl⟩
        have HZ := hidden hz
        rw [hz] at hce
        rw [← hce] at hb2
        have HB2 := hidden hb2
        generalize hbo : (z == 0) = bo at HB2
        clear he1 he2 hz hb2 hce hat hou hwh
        go_wp2
        have hmx : Tryd.prog.follows .mixedOrders = true := by kernel_rfl
        refine wp_region_any hmx ?_
        change wpAny Tryd.prog _ _ _ _ _ _ wr.drew
        refine wpAny_take (i := 0) (v := (.int .i64 (i : Int))) rfl (by kernel_rfl) (by kernel_rfl) (by kernel_rfl) (fun _ _ _ h => h) (Or.inl ⟨by rfl, (by intro w; go_simp; try rfl)⟩) ?_; (try go_simp)
        refine wpAny_take (i := 1) (v := (.int .i64 (i : Int))) rfl (by kernel_rfl) (by kernel_rfl) (by kernel_rfl) (fun _ _ _ h => h) (Or.inl ⟨by rfl, (by intro w; go_simp; try rfl)⟩) ?_; (try go_simp)
        refine wpAny_take (i := 2) (v := (.int .i64 (n : Int))) rfl (by kernel_rfl) (by kernel_rfl) (by kernel_rfl) (fun _ _ _ h => h) (Or.inl ⟨by rfl, (by intro w; go_simp; try rfl)⟩) ?_; (try go_simp)
        refine wpAny_take (i := 3) (v := (.bool true)) rfl (by kernel_rfl) (by kernel_rfl) (by kernel_rfl) (fun _ _ _ h => h) (Or.inl ⟨by rfl, (by intro w; go_simp; try rfl)⟩) ?_; (try go_simp)
        refine wpAny_take (i := 4) (v := (.bool true)) rfl (by kernel_rfl) (by kernel_rfl) (by kernel_rfl) (fun _ _ _ h => h) (Or.inl ⟨by rfl, (by intro w; go_simp; try rfl)⟩) ?_; (try go_simp)
        refine wpAny_take (i := 5) (v := (.func (.func 61) #[] #[])) rfl (by kernel_rfl) (by kernel_rfl) (by kernel_rfl) (fun _ _ _ h => h) (Or.inl ⟨by rfl, (by intro w; go_simp; try rfl)⟩) ?_; (try go_simp)
        refine wpAny_take (i := 6) (v := (.slice (some ⟨b, 0, none⟩) n cap)) rfl (by kernel_rfl) (by kernel_rfl) (by kernel_rfl) (fun _ _ _ h => h) (Or.inl ⟨by rfl, (by intro w; go_simp; try rfl)⟩) ?_; (try go_simp)
        refine wpAny_take (i := 7) (v := (.int .i64 (i : Int))) rfl (by kernel_rfl) (by kernel_rfl) (by kernel_rfl) (fun _ _ _ h => h) (Or.inl ⟨by rfl, (by intro w; go_simp; try rfl)⟩) ?_; (try go_simp)
        refine wpAny_take (i := 8) (v := (.pointer (some ⟨b, i * 2, none⟩))) rfl (by kernel_rfl) (by kernel_rfl) (by kernel_rfl) (fun _ _ _ h => h) (Or.inl ⟨by rfl, (by intro w; go_simp; try rfl)⟩) ?_; (try go_simp)
        refine wpAny_ready (rs := [9, 10]) (by kernel_rfl) (by simp) ?_; refine (AllReady.cons rfl (fun K hK => ?_) (AllReady.cons rfl (fun K hK => ?_) AllReady.nil))
        · go_simp; refine hK _ _ ?_; clear hK K; (try go_simp)
          refine wpAny_ready (rs := [10]) (by kernel_rfl) (by simp) ?_; refine (AllReady.cons rfl (fun K hK => ?_) AllReady.nil)
          go_simp; refine hK _ _ ?_; clear hK K; (try go_simp)
          refine wpAny_ready (rs := [11]) (by kernel_rfl) (by simp) ?_; refine (AllReady.cons rfl (fun K hK => ?_) AllReady.nil)
          refine step_callG (by first | rfl | (go_simp; done) | decide) 61 #[.agg #[.int .i64 (e1 : Int), .int .i64 (e2 : Int)], .agg #[.int .i64 k, .int .i64 m]] (fun u W => u = .int .i64 z ∧ Same wr W) (by go_simp; try rfl) ((H1.out _ _ _).mono (fun e w' ⟨h1, h2⟩ => ⟨_, h1, by rw [HZ.out], ⟨h2.os, h2.tape, h2.output, h2.size, h2.block⟩⟩)) ?_; rintro u w2 ⟨rfl, k2⟩; refine hK _ _ ?_; clear hK K; (try go_simp)
          refine wpAny_take (i := 12) (v := (.bool (z == 0))) rfl (by kernel_rfl) (by kernel_rfl) (by kernel_rfl) (fun _ _ _ h => h) (Or.inl ⟨by rfl, (by intro w; go_simp; try rfl)⟩) ?_; (try go_simp)
          refine wpAny_take (i := 13) (v := (.bool (z == 0))) rfl (by kernel_rfl) (by kernel_rfl) (by kernel_rfl) (fun _ _ _ h => h) (Or.inl ⟨by rfl, (by intro w; go_simp; try rfl)⟩) ?_; (try go_simp)
          refine wpAny_take (i := 14) (v := (.int .i64 (i : Int))) rfl (by kernel_rfl) (by kernel_rfl) (by kernel_rfl) (fun _ _ _ h => h) (Or.inl ⟨by rfl, (by intro w; go_simp; try rfl)⟩) ?_; (try go_simp)
          refine wpAny_take (i := 15) (v := (.bool (z == 0))) rfl (by kernel_rfl) (by kernel_rfl) (by kernel_rfl) (fun _ _ _ h => h) (Or.inl ⟨by rfl, (by intro w; go_simp; try rfl)⟩) ?_; (try go_simp)
          refine wpAny_done (by kernel_rfl) ?_ _
          go_wp2
          go_returns
          exact ⟨i, by rw [HB2.out]; rfl, HW.out, Kept.trans HKw.out k2⟩
        · go_simp; refine hK _ _ ?_; clear hK K; (try go_simp)
          refine wpAny_ready (rs := [9]) (by kernel_rfl) (by simp) ?_; refine (AllReady.cons rfl (fun K hK => ?_) AllReady.nil)
          go_simp; refine hK _ _ ?_; clear hK K; (try go_simp)
          refine wpAny_ready (rs := [11]) (by kernel_rfl) (by simp) ?_; refine (AllReady.cons rfl (fun K hK => ?_) AllReady.nil)
          refine step_callG (by first | rfl | (go_simp; done) | decide) 61 #[.agg #[.int .i64 (e1 : Int), .int .i64 (e2 : Int)], .agg #[.int .i64 k, .int .i64 m]] (fun u W => u = .int .i64 z ∧ Same wr W) (by go_simp; try rfl) ((H1.out _ _ _).mono (fun e w' ⟨h1, h2⟩ => ⟨_, h1, by rw [HZ.out], ⟨h2.os, h2.tape, h2.output, h2.size, h2.block⟩⟩)) ?_; rintro u w2 ⟨rfl, k2⟩; refine hK _ _ ?_; clear hK K; (try go_simp)
          refine wpAny_take (i := 12) (v := (.bool (z == 0))) rfl (by kernel_rfl) (by kernel_rfl) (by kernel_rfl) (fun _ _ _ h => h) (Or.inl ⟨by rfl, (by intro w; go_simp; try rfl)⟩) ?_; (try go_simp)
          refine wpAny_take (i := 13) (v := (.bool (z == 0))) rfl (by kernel_rfl) (by kernel_rfl) (by kernel_rfl) (fun _ _ _ h => h) (Or.inl ⟨by rfl, (by intro w; go_simp; try rfl)⟩) ?_; (try go_simp)
          refine wpAny_take (i := 14) (v := (.int .i64 (i : Int))) rfl (by kernel_rfl) (by kernel_rfl) (by kernel_rfl) (fun _ _ _ h => h) (Or.inl ⟨by rfl, (by intro w; go_simp; try rfl)⟩) ?_; (try go_simp)
          refine wpAny_take (i := 15) (v := (.bool (z == 0))) rfl (by kernel_rfl) (by kernel_rfl) (by kernel_rfl) (fun _ _ _ h => h) (Or.inl ⟨by rfl, (by intro w; go_simp; try rfl)⟩) ?_; (try go_simp)
          refine wpAny_done (by kernel_rfl) ?_ _
          go_wp2
          go_returns
          exact ⟨i, by rw [HB2.out]; rfl, HW.out, Kept.trans HKw.out k2⟩
      · have q2 : ¬ (i : Int) < (n : Int) := by omega
        have HB2 := hidden (hou (by rw [HN.out]; exact h2))
        clear hat hou hwh
        go_wp2
        have hmx : Tryd.prog.follows .mixedOrders = true := by kernel_rfl
        refine wp_region_any hmx ?_
        change wpAny Tryd.prog _ _ _ _ _ _ wr.drew
        refine wpAny_take (i := 0) (v := (.int .i64 (i : Int))) rfl (by kernel_rfl) (by kernel_rfl) (by kernel_rfl) (fun _ _ _ h => h) (Or.inl ⟨by rfl, (by intro w; go_simp; try rfl)⟩) ?_; (try go_simp)
        refine wpAny_take (i := 1) (v := (.int .i64 (i : Int))) rfl (by kernel_rfl) (by kernel_rfl) (by kernel_rfl) (fun _ _ _ h => h) (Or.inl ⟨by rfl, (by intro w; go_simp; try rfl)⟩) ?_; (try go_simp)
        refine wpAny_take (i := 2) (v := (.int .i64 (n : Int))) rfl (by kernel_rfl) (by kernel_rfl) (by kernel_rfl) (fun _ _ _ h => h) (Or.inl ⟨by rfl, (by intro w; go_simp; try rfl)⟩) ?_; (try go_simp)
        refine wpAny_take (i := 3) (v := (.bool false)) rfl (by kernel_rfl) (by kernel_rfl) (by kernel_rfl) (fun _ _ _ h => h) (Or.inl ⟨by rfl, (by intro w; go_simp; try rfl)⟩) ?_; (try go_simp)
        refine wpAny_take (i := 4) (v := (.bool false)) rfl (by kernel_rfl) (by kernel_rfl) (by kernel_rfl) (fun _ _ _ h => h) (Or.inl ⟨by rfl, (by intro w; go_simp; try rfl)⟩) ?_; (try go_simp)
        refine wpAny_take (i := 5) (v := undef) rfl (by kernel_rfl) (by kernel_rfl) (by kernel_rfl) (fun _ _ _ h => h) (Or.inr ⟨by rfl, rfl⟩) ?_; (try go_simp)
        refine wpAny_take (i := 6) (v := undef) rfl (by kernel_rfl) (by kernel_rfl) (by kernel_rfl) (fun _ _ _ h => h) (Or.inr ⟨by rfl, rfl⟩) ?_; (try go_simp)
        refine wpAny_take (i := 7) (v := undef) rfl (by kernel_rfl) (by kernel_rfl) (by kernel_rfl) (fun _ _ _ h => h) (Or.inr ⟨by rfl, rfl⟩) ?_; (try go_simp)
        refine wpAny_take (i := 8) (v := undef) rfl (by kernel_rfl) (by kernel_rfl) (by kernel_rfl) (fun _ _ _ h => h) (Or.inr ⟨by rfl, rfl⟩) ?_; (try go_simp)
        refine wpAny_take (i := 9) (v := undef) rfl (by kernel_rfl) (by kernel_rfl) (by kernel_rfl) (fun _ _ _ h => h) (Or.inr ⟨by rfl, rfl⟩) ?_; (try go_simp)
        refine wpAny_take (i := 10) (v := undef) rfl (by kernel_rfl) (by kernel_rfl) (by kernel_rfl) (fun _ _ _ h => h) (Or.inr ⟨by rfl, rfl⟩) ?_; (try go_simp)
        refine wpAny_take (i := 11) (v := undef) rfl (by kernel_rfl) (by kernel_rfl) (by kernel_rfl) (fun _ _ _ h => h) (Or.inr ⟨by rfl, rfl⟩) ?_; (try go_simp)
        refine wpAny_take (i := 12) (v := undef) rfl (by kernel_rfl) (by kernel_rfl) (by kernel_rfl) (fun _ _ _ h => h) (Or.inr ⟨by rfl, rfl⟩) ?_; (try go_simp)
        refine wpAny_take (i := 13) (v := (.bool false)) rfl (by kernel_rfl) (by kernel_rfl) (by kernel_rfl) (fun _ _ _ h => h) (Or.inl ⟨by rfl, (by intro w; go_simp; try rfl)⟩) ?_; (try go_simp)
        refine wpAny_take (i := 14) (v := (.int .i64 (i : Int))) rfl (by kernel_rfl) (by kernel_rfl) (by kernel_rfl) (fun _ _ _ h => h) (Or.inl ⟨by rfl, (by intro w; go_simp; try rfl)⟩) ?_; (try go_simp)
        refine wpAny_take (i := 15) (v := (.bool false)) rfl (by kernel_rfl) (by kernel_rfl) (by kernel_rfl) (fun _ _ _ h => h) (Or.inl ⟨by rfl, (by intro w; go_simp; try rfl)⟩) ?_; (try go_simp)
        refine wpAny_done (by kernel_rfl) ?_ _
        go_wp2
        go_returns
        exact ⟨i, by rw [HB2.out]; rfl, HW.out, HKw.out.drew⟩
end Go.Proofs.YtafdkfieajdeiaaDoor
