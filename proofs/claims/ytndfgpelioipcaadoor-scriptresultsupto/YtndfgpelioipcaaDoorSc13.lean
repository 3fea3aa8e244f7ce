/- script: PrintOp, ParseOp, and the law's awake, walked. -/
import Derived.Test.YtndfgpelioipcaaDoorSc12
namespace Go.Proofs.YtndfgpelioipcaaDoor
open Go.RowKit Go.Maps Go.WideMaps
set_option linter.unusedVariables false
set_option linter.unusedSimpArgs false
theorem wl_facts : ∀ (n : Nat) (P : List UInt8), wl n P ≠ [] ∧ (wl n P).length ≤ P.length + 1 ∧ ∀ x ∈ wl n P, x.length ≤ P.length
  | 0, P => by simp [wl]
  | n + 1, P => by
    unfold wl
    cases hs : sc false P with
    | none => simp
    | some i =>
      have hi := sc_lt _ _ _ hs
      obtain ⟨h1, h2, h3⟩ := wl_facts n (P.drop (i + 1))
      rw [List.length_drop] at h2 h3
      refine ⟨by simp, by simp only [List.length_cons]; omega, fun x hx => ?_⟩
      rcases List.mem_cons.1 hx with rfl | hx
      · rw [List.length_take]; omega
      · have := h3 x hx; omega
def poV : Option (List UInt8) → Value
  | some l => .tuple #[.string (BA l), .int .i64 0]
  | none => .tuple #[.string ⟨#[]⟩, .int .i64 260]
def piV : Option OpR → Value
  | some o => .tuple #[.agg o.cs, .int .i64 0]
  | none => .tuple #[.agg OpR.zero.cs, .int .i64 260]
theorem st_new (w : World) (o : OpR) : (Instr.storeAt 28 (.pointer (some ⟨w.heap.size, 0, none⟩)) (.agg o.cs)).run Tryd.prog (w.alloc (.cells OpR.zero.cs 28)) = .ok () (w.alloc (.cells o.cs 28)) := by
  have h := st_op (o := OpR.zero) (o2 := o) (blk_new w (.cells OpR.zero.cs 28))
  rw [World.setRow_alloc_new] at h
  exact h
set_option maxHeartbeats 1000000 in
set_option maxRecDepth 100000 in
theorem parseOp_any (s : ByteArray) (hs : s.size ≤ 549755813888) (w : World) (T : Tb w) : Calls Tryd.prog 16 #[.string s] w fun e w' => e = .returned (piV (prw (wordsL s.data.toList))) ∧ Same w w' := by
  have hsl : s.data.toList.length = s.size := size_list s
  have HG := hidden grammar_any
  have HW := hidden (words_any s (by omega))
  obtain ⟨h1, h2, h3⟩ := wl_facts s.data.toList.length s.data.toList
  change wordsL s.data.toList ≠ [] at h1
  change (wordsL s.data.toList).length ≤ _ at h2
  change ∀ x ∈ wordsL s.data.toList, _ at h3
  rw [hsl] at h2 h3
  generalize wordsL s.data.toList = ws at *
  obtain ⟨x0, xs, rfl⟩ := List.exists_cons_of_ne_nil h1
  rw [List.length_cons] at h2
  have HP := hidden (fun (a : Option Addr) (n c B bf bk : Nat) (W : World) T G r => parse_any x0 xs a n c B bf bk W T G r (fun x hx => by have := h3 x hx; omega) (by omega))
  have HT := hidden T
  have hB0 : OpB (w.alloc (.cells OpR.zero.cs 28)) w.heap.size OpR.zero := blk_new w _
  have HB0 := hidden hB0
  clear h1 h2 h3 hsl T hB0
  cases hp : prw (x0 :: xs) with
  | none =>
    rw [hp] at HP
    go_enter Tryd.func16, Tryd.ntmps16
    go_wp2_with (first
      | (go_at_call 23; refine (HG.out _).mono ?_; rintro e w1 ⟨⟨bf, bk, rfl, g1⟩, k1⟩; have G1 := hidden g1; have K1 := hidden k1; have B1 := hidden (opb_kept HB0.out k1 (fun h => h)); clear g1 k1)
      | (go_at_call 29; refine (HW.out _).mono ?_; rintro e w2 ⟨⟨v, rfl, o2⟩, k2⟩; have K2 := hidden (((same_alloc w _).trans K1.out).trans k2); have G2 := hidden (G1.out.same k2); have B2 := hidden (opb_kept B1.out k2 (fun h => h)); obtain ⟨va, vc, rfl⟩ := o2.form; have O2 := hidden o2; clear o2 k2)
      | (go_at_call 28; refine (HP.out _ _ _ _ _ _ _ (HT.out.same K2.out) G2.out O2.out.row).mono ?_; rintro e w3 ⟨rfl, k3⟩; have K3 := hidden (K2.out.trans k3); have B3 := hidden (opb_kept B2.out k3 (fun h => h)); clear k3; unfold psV)
      | (refine wl_store 28 _ _ rfl rfl rfl w3.heap.size rfl OpR.zero.cs rfl (st_new w3 OpR.zero) ?_)
      | (refine wl_store 28 _ _ rfl rfl rfl w.heap.size rfl OpR.zero.cs rfl (st_op (blk_alloc B3.out _)) ?_))
    have hlv := lv_op (opb_row (blk_alloc B3.out (.cells OpR.zero.cs 28)) OpR.zero)
    have S9 := hidden ((K3.out.alloc (.cells OpR.zero.cs 28)).setRow (g := w.heap.size) (.inl (Nat.le_refl _)) OpR.zero.cs)
    generalize (w3.alloc (.cells OpR.zero.cs 28)).setRow w.heap.size OpR.zero.cs = W9 at *
    exact bodyPost_ret (res_row2 Tryd.results16 rfl hlv rfl) rfl ⟨rfl, S9.out⟩
  | some o =>
    rw [hp] at HP
    go_enter Tryd.func16, Tryd.ntmps16
    go_wp2_with (first
      | (go_at_call 23; refine (HG.out _).mono ?_; rintro e w1 ⟨⟨bf, bk, rfl, g1⟩, k1⟩; have G1 := hidden g1; have K1 := hidden k1; have B1 := hidden (opb_kept HB0.out k1 (fun h => h)); clear g1 k1)
      | (go_at_call 29; refine (HW.out _).mono ?_; rintro e w2 ⟨⟨v, rfl, o2⟩, k2⟩; have K2 := hidden (((same_alloc w _).trans K1.out).trans k2); have G2 := hidden (G1.out.same k2); have B2 := hidden (opb_kept B1.out k2 (fun h => h)); obtain ⟨va, vc, rfl⟩ := o2.form; have O2 := hidden o2; clear o2 k2)
      | (go_at_call 28; refine (HP.out _ _ _ _ _ _ _ (HT.out.same K2.out) G2.out O2.out.row).mono ?_; rintro e w3 ⟨rfl, k3⟩; have K3 := hidden (K2.out.trans k3); have B3 := hidden (opb_kept B2.out k3 (fun h => h)); clear k3; unfold psV)
      | (refine wl_load 28 _ rfl rfl w3.heap.size rfl o.cs (ld_op (blk_new w3 _)) ?_)
      | (refine wl_store 28 _ _ rfl rfl rfl w3.heap.size rfl o.cs rfl (st_new w3 o) ?_)
      | (refine wl_store 28 _ _ rfl rfl rfl w.heap.size rfl o.cs rfl (st_op (blk_alloc B3.out _)) ?_))
    have hlv := lv_op (opb_row (blk_alloc B3.out (.cells o.cs 28)) o)
    have S9 := hidden ((K3.out.alloc (.cells o.cs 28)).setRow (g := w.heap.size) (.inl (Nat.le_refl _)) o.cs)
    generalize (w3.alloc (.cells o.cs 28)).setRow w.heap.size o.cs = W9 at *
    exact bodyPost_ret (res_row2 Tryd.results16 rfl hlv rfl) rfl ⟨rfl, S9.out⟩
theorem step_load8 {ops : Array Oper} {o : Oper} {a : Act} {w : World} {K : Act → World → Prop} {Q : Exit → Act → World → Prop} {E : Prop} (hgd : o.guard = none) (x : Operand) (ho : o.op = .load 28 x) {g : Nat} (hx : a.eval x = .pointer (some ⟨g, 0, none⟩)) {cs : Array Value}
    (hr : (Instr.loadAt 28 (.pointer (some ⟨g, 0, none⟩))).run Tryd.prog w = .ok (.agg cs) w) (hK : K (a.put o.dst (.agg cs)) w) : if Region.wanted o (yielded ops a.tmps) = true then Oper.wp Tryd.prog o a w K Q else E := by
  have hw : Region.wanted o (yielded ops a.tmps) = true := by simp [Region.wanted, hgd]
  rw [if_pos hw]
  unfold Oper.wp execOp
  simp only [ho, hx, hr, Sem.run_bind, Sem.run_pure, Result.andThen_ok]
  exact hK
set_option maxHeartbeats 1000000 in
set_option maxRecDepth 100000 in
theorem printOp_any (o : OpR) (ho : o.Ok 1099511627776) (w : World) (T : Tb w) : Calls Tryd.prog 14 #[.agg o.cs] w fun e w' => e = .returned (poV (prt o)) ∧ Same w w' := by
  have HG := hidden grammar_any
  have HP := hidden (fun (B bf bk : Nat) (W : World) T G => print_any o B bf bk W T G ho)
  have HT := hidden T
  have hB0 : OpB (w.alloc (.cells o.cs 28)) w.heap.size o := blk_new w _
  have HB0 := hidden hB0
  have hcs : o.cs = #[.int .i64 o.kd, .string (BA o.pa), .string (BA o.ot), .int .i64 o.ha, .int .i64 o.of, .int .i64 o.nn, .int .i64 o.fl, .string (BA o.da)] := rfl
  have HCl : Hid (∀ W : World, OpB W w.heap.size o → W.cell? ⟨w.heap.size, 0, none⟩ = some (.int .i64 o.kd) ∧ W.cell? ⟨w.heap.size, 1, none⟩ = some (.string (BA o.pa)) ∧ W.cell? ⟨w.heap.size, 2, none⟩ = some (.string (BA o.ot)) ∧ W.cell? ⟨w.heap.size, 3, none⟩ = some (.int .i64 o.ha) ∧ W.cell? ⟨w.heap.size, 4, none⟩ = some (.int .i64 o.of) ∧ W.cell? ⟨w.heap.size, 5, none⟩ = some (.int .i64 o.nn) ∧ W.cell? ⟨w.heap.size, 6, none⟩ = some (.int .i64 o.fl) ∧ W.cell? ⟨w.heap.size, 7, none⟩ = some (.string (BA o.da))) := hidden (fun W h => ⟨blk_cell h, blk_cell h, blk_cell h, blk_cell h, blk_cell h, blk_cell h, blk_cell h, blk_cell h⟩)
  clear T hB0
  cases hp : prt o with
  | none =>
    rw [hp] at HP
    go_enter Tryd.func14, Tryd.ntmps14
    go_wp2
    refine wp_region_any hmx ?_
    change wpAny Tryd.prog _ _ _ _ _ _ (w.alloc (.cells o.cs 28)).drew
    refine wpAny_ready (rs := [0, 1]) (by kernel_rfl) (by simp) ?_
    refine AllReady.cons rfl (fun K hK => ?_) (AllReady.cons rfl (fun K hK => ?_) AllReady.nil)
    · refine step_call rfl 23 #[] (fun v W => ∃ bf bk, v = .agg #[.map (some bf), .map (some bk)] ∧ Gr (w.alloc (.cells o.cs 28)).heap.size W bf bk ∧ Same (w.alloc (.cells o.cs 28)) W) (by go_simp; try rfl) ((HG.out _).mono fun e w' ⟨⟨bf, bk, h1, h2⟩, h3⟩ => ⟨_, h1, bf, bk, rfl, h2, ⟨h3.os, h3.tape, h3.output, h3.size, h3.block⟩⟩) ?_
      rintro v w1 ⟨bf, bk, rfl, g1, k1⟩; have G1 := hidden g1; have K1 := hidden ((same_alloc w (.cells o.cs 28)).trans k1); have B1 := hidden (opb_kept HB0.out k1 (fun h => h)); clear g1 k1
      refine hK _ _ ?_; clear hK K; (try go_simp)
      refine wpAny_ready (rs := [1]) (by kernel_rfl) (by simp) ?_; refine AllReady.cons rfl (fun K hK => ?_) AllReady.nil
      refine step_load8 rfl _ rfl rfl (ld_op B1.out) ?_
      refine hK _ _ ?_; clear hK K; (try go_simp)
      refine wpAny_ready (rs := [2]) (by kernel_rfl) (by simp) ?_; refine AllReady.cons rfl (fun K hK => ?_) AllReady.nil
      refine step_call rfl 24 #[.agg #[.map (some bf), .map (some bk)], .agg o.cs] (fun v W => v = .tuple #[.string ⟨#[]⟩, .bool false] ∧ Same w1 W) (by go_simp; try rfl) ((HP.out _ _ _ _ (HT.out.same K1.out) G1.out).mono fun e w' ⟨h1, h2⟩ => ⟨_, h1, rfl, h2⟩) ?_
      rintro v w2 ⟨rfl, k2⟩; have K2 := hidden (K1.out.trans k2); clear k2
      refine hK _ _ ?_; clear hK K; (try go_simp)
      refine wpAny_take (i := 3) (v := .tuple #[.string ⟨#[]⟩, .bool false]) rfl (by kernel_rfl) (by kernel_rfl) (by kernel_rfl) (fun _ _ _ h => h) (Or.inl ⟨by rfl, (by intro w; go_simp; try rfl)⟩) ?_; (try go_simp)
      refine wpAny_take (i := 4) (v := .string ⟨#[]⟩) rfl (by kernel_rfl) (by kernel_rfl) (by kernel_rfl) (fun _ _ _ h => h) (Or.inl ⟨by rfl, (by intro w; go_simp; try rfl)⟩) ?_; (try go_simp)
      refine wpAny_take (i := 5) (v := .bool false) rfl (by kernel_rfl) (by kernel_rfl) (by kernel_rfl) (fun _ _ _ h => h) (Or.inl ⟨by rfl, (by intro w; go_simp; try rfl)⟩) ?_; (try go_simp)
      refine wpAny_ready (rs := [6]) (by kernel_rfl) (by simp) ?_; refine AllReady.cons rfl (fun K hK => ?_) AllReady.nil
      go_simp
      refine hK _ _ ?_; clear hK K; (try go_simp)
      refine wpAny_ready (rs := [7]) (by kernel_rfl) (by simp) ?_; refine AllReady.cons rfl (fun K hK => ?_) AllReady.nil
      go_simp
      refine hK _ _ ?_; clear hK K; (try go_simp)
      refine wpAny_done (by kernel_rfl) ?_ _
      go_wp2
      go_returns
      exact ⟨rfl, K2.out⟩
    · refine step_load8 rfl _ rfl rfl (ld_op (opb_kept HB0.out ((Kept.refl (fun _ => False) _).drew) (fun h => h))) ?_
      refine hK _ _ ?_; clear hK K; (try go_simp)
      refine wpAny_ready (rs := [0]) (by kernel_rfl) (by simp) ?_; refine AllReady.cons rfl (fun K hK => ?_) AllReady.nil
      refine step_call rfl 23 #[] (fun v W => ∃ bf bk, v = .agg #[.map (some bf), .map (some bk)] ∧ Gr (w.alloc (.cells o.cs 28)).heap.size W bf bk ∧ Same (w.alloc (.cells o.cs 28)) W) (by go_simp; try rfl) ((HG.out _).mono fun e w' ⟨⟨bf, bk, h1, h2⟩, h3⟩ => ⟨_, h1, bf, bk, rfl, h2, ⟨h3.os, h3.tape, h3.output, h3.size, h3.block⟩⟩) ?_
      rintro v w1 ⟨bf, bk, rfl, g1, k1⟩; have G1 := hidden g1; have K1 := hidden ((same_alloc w (.cells o.cs 28)).trans k1); have B1 := hidden (opb_kept HB0.out k1 (fun h => h)); clear g1 k1
      refine hK _ _ ?_; clear hK K; (try go_simp)
      refine wpAny_ready (rs := [2]) (by kernel_rfl) (by simp) ?_; refine AllReady.cons rfl (fun K hK => ?_) AllReady.nil
      refine step_call rfl 24 #[.agg #[.map (some bf), .map (some bk)], .agg o.cs] (fun v W => v = .tuple #[.string ⟨#[]⟩, .bool false] ∧ Same w1 W) (by go_simp; try rfl) ((HP.out _ _ _ _ (HT.out.same K1.out) G1.out).mono fun e w' ⟨h1, h2⟩ => ⟨_, h1, rfl, h2⟩) ?_
      rintro v w2 ⟨rfl, k2⟩; have K2 := hidden (K1.out.trans k2); clear k2
      refine hK _ _ ?_; clear hK K; (try go_simp)
      refine wpAny_take (i := 3) (v := .tuple #[.string ⟨#[]⟩, .bool false]) rfl (by kernel_rfl) (by kernel_rfl) (by kernel_rfl) (fun _ _ _ h => h) (Or.inl ⟨by rfl, (by intro w; go_simp; try rfl)⟩) ?_; (try go_simp)
      refine wpAny_take (i := 4) (v := .string ⟨#[]⟩) rfl (by kernel_rfl) (by kernel_rfl) (by kernel_rfl) (fun _ _ _ h => h) (Or.inl ⟨by rfl, (by intro w; go_simp; try rfl)⟩) ?_; (try go_simp)
      refine wpAny_take (i := 5) (v := .bool false) rfl (by kernel_rfl) (by kernel_rfl) (by kernel_rfl) (fun _ _ _ h => h) (Or.inl ⟨by rfl, (by intro w; go_simp; try rfl)⟩) ?_; (try go_simp)
      refine wpAny_ready (rs := [6]) (by kernel_rfl) (by simp) ?_; refine AllReady.cons rfl (fun K hK => ?_) AllReady.nil
      go_simp
      refine hK _ _ ?_; clear hK K; (try go_simp)
      refine wpAny_ready (rs := [7]) (by kernel_rfl) (by simp) ?_; refine AllReady.cons rfl (fun K hK => ?_) AllReady.nil
      go_simp
      refine hK _ _ ?_; clear hK K; (try go_simp)
      refine wpAny_done (by kernel_rfl) ?_ _
      go_wp2
      go_returns
      exact ⟨rfl, K2.out⟩
  | some l =>
    rw [hp] at HP
    go_enter Tryd.func14, Tryd.ntmps14
    go_wp2
    refine wp_region_any hmx ?_
    change wpAny Tryd.prog _ _ _ _ _ _ (w.alloc (.cells o.cs 28)).drew
    refine wpAny_ready (rs := [0, 1]) (by kernel_rfl) (by simp) ?_
    refine AllReady.cons rfl (fun K hK => ?_) (AllReady.cons rfl (fun K hK => ?_) AllReady.nil)
    · refine step_call rfl 23 #[] (fun v W => ∃ bf bk, v = .agg #[.map (some bf), .map (some bk)] ∧ Gr (w.alloc (.cells o.cs 28)).heap.size W bf bk ∧ Same (w.alloc (.cells o.cs 28)) W) (by go_simp; try rfl) ((HG.out _).mono fun e w' ⟨⟨bf, bk, h1, h2⟩, h3⟩ => ⟨_, h1, bf, bk, rfl, h2, ⟨h3.os, h3.tape, h3.output, h3.size, h3.block⟩⟩) ?_
      rintro v w1 ⟨bf, bk, rfl, g1, k1⟩; have G1 := hidden g1; have K1 := hidden ((same_alloc w (.cells o.cs 28)).trans k1); have B1 := hidden (opb_kept HB0.out k1 (fun h => h)); clear g1 k1
      refine hK _ _ ?_; clear hK K; (try go_simp)
      refine wpAny_ready (rs := [1]) (by kernel_rfl) (by simp) ?_; refine AllReady.cons rfl (fun K hK => ?_) AllReady.nil
      refine step_load8 rfl _ rfl rfl (ld_op B1.out) ?_
      refine hK _ _ ?_; clear hK K; (try go_simp)
      refine wpAny_ready (rs := [2]) (by kernel_rfl) (by simp) ?_; refine AllReady.cons rfl (fun K hK => ?_) AllReady.nil
      refine step_call rfl 24 #[.agg #[.map (some bf), .map (some bk)], .agg o.cs] (fun v W => v = .tuple #[.string (BA l), .bool true] ∧ Same w1 W) (by go_simp; try rfl) ((HP.out _ _ _ _ (HT.out.same K1.out) G1.out).mono fun e w' ⟨h1, h2⟩ => ⟨_, h1, rfl, h2⟩) ?_
      rintro v w2 ⟨rfl, k2⟩; have K2 := hidden (K1.out.trans k2); clear k2
      refine hK _ _ ?_; clear hK K; (try go_simp)
      refine wpAny_take (i := 3) (v := .tuple #[.string (BA l), .bool true]) rfl (by kernel_rfl) (by kernel_rfl) (by kernel_rfl) (fun _ _ _ h => h) (Or.inl ⟨by rfl, (by intro w; go_simp; try rfl)⟩) ?_; (try go_simp)
      refine wpAny_take (i := 4) (v := .string (BA l)) rfl (by kernel_rfl) (by kernel_rfl) (by kernel_rfl) (fun _ _ _ h => h) (Or.inl ⟨by rfl, (by intro w; go_simp; try rfl)⟩) ?_; (try go_simp)
      refine wpAny_take (i := 5) (v := .bool true) rfl (by kernel_rfl) (by kernel_rfl) (by kernel_rfl) (fun _ _ _ h => h) (Or.inl ⟨by rfl, (by intro w; go_simp; try rfl)⟩) ?_; (try go_simp)
      refine wpAny_ready (rs := [6]) (by kernel_rfl) (by simp) ?_; refine AllReady.cons rfl (fun K hK => ?_) AllReady.nil
      go_simp
      refine hK _ _ ?_; clear hK K; (try go_simp)
      refine wpAny_ready (rs := [7]) (by kernel_rfl) (by simp) ?_; refine AllReady.cons rfl (fun K hK => ?_) AllReady.nil
      go_simp
      refine hK _ _ ?_; clear hK K; (try go_simp)
      refine wpAny_done (by kernel_rfl) ?_ _
      go_wp2
      go_returns
      exact ⟨rfl, K2.out⟩
    · refine step_load8 rfl _ rfl rfl (ld_op (opb_kept HB0.out ((Kept.refl (fun _ => False) _).drew) (fun h => h))) ?_
      refine hK _ _ ?_; clear hK K; (try go_simp)
      refine wpAny_ready (rs := [0]) (by kernel_rfl) (by simp) ?_; refine AllReady.cons rfl (fun K hK => ?_) AllReady.nil
      refine step_call rfl 23 #[] (fun v W => ∃ bf bk, v = .agg #[.map (some bf), .map (some bk)] ∧ Gr (w.alloc (.cells o.cs 28)).heap.size W bf bk ∧ Same (w.alloc (.cells o.cs 28)) W) (by go_simp; try rfl) ((HG.out _).mono fun e w' ⟨⟨bf, bk, h1, h2⟩, h3⟩ => ⟨_, h1, bf, bk, rfl, h2, ⟨h3.os, h3.tape, h3.output, h3.size, h3.block⟩⟩) ?_
      rintro v w1 ⟨bf, bk, rfl, g1, k1⟩; have G1 := hidden g1; have K1 := hidden ((same_alloc w (.cells o.cs 28)).trans k1); have B1 := hidden (opb_kept HB0.out k1 (fun h => h)); clear g1 k1
      refine hK _ _ ?_; clear hK K; (try go_simp)
      refine wpAny_ready (rs := [2]) (by kernel_rfl) (by simp) ?_; refine AllReady.cons rfl (fun K hK => ?_) AllReady.nil
      refine step_call rfl 24 #[.agg #[.map (some bf), .map (some bk)], .agg o.cs] (fun v W => v = .tuple #[.string (BA l), .bool true] ∧ Same w1 W) (by go_simp; try rfl) ((HP.out _ _ _ _ (HT.out.same K1.out) G1.out).mono fun e w' ⟨h1, h2⟩ => ⟨_, h1, rfl, h2⟩) ?_
      rintro v w2 ⟨rfl, k2⟩; have K2 := hidden (K1.out.trans k2); clear k2
      refine hK _ _ ?_; clear hK K; (try go_simp)
      refine wpAny_take (i := 3) (v := .tuple #[.string (BA l), .bool true]) rfl (by kernel_rfl) (by kernel_rfl) (by kernel_rfl) (fun _ _ _ h => h) (Or.inl ⟨by rfl, (by intro w; go_simp; try rfl)⟩) ?_; (try go_simp)
      refine wpAny_take (i := 4) (v := .string (BA l)) rfl (by kernel_rfl) (by kernel_rfl) (by kernel_rfl) (fun _ _ _ h => h) (Or.inl ⟨by rfl, (by intro w; go_simp; try rfl)⟩) ?_; (try go_simp)
      refine wpAny_take (i := 5) (v := .bool true) rfl (by kernel_rfl) (by kernel_rfl) (by kernel_rfl) (fun _ _ _ h => h) (Or.inl ⟨by rfl, (by intro w; go_simp; try rfl)⟩) ?_; (try go_simp)
      refine wpAny_ready (rs := [6]) (by kernel_rfl) (by simp) ?_; refine AllReady.cons rfl (fun K hK => ?_) AllReady.nil
      go_simp
      refine hK _ _ ?_; clear hK K; (try go_simp)
      refine wpAny_ready (rs := [7]) (by kernel_rfl) (by simp) ?_; refine AllReady.cons rfl (fun K hK => ?_) AllReady.nil
      go_simp
      refine hK _ _ ?_; clear hK K; (try go_simp)
      refine wpAny_done (by kernel_rfl) ?_ _
      go_wp2
      go_returns
      exact ⟨rfl, K2.out⟩
end Go.Proofs.YtndfgpelioipcaaDoor
