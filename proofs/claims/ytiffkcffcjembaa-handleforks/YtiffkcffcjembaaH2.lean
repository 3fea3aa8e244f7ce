/- Tables: Get, Open, Close. -/
import Derived.Test.YtiffkcffcjembaaH1
import Derived.StillTailTactics
import Derived.BigQuiet
import Derived.Deep.QuietTactic
namespace Go.Proofs.Ytiffkcffcjembaa
open Go.RowKit Go.Maps
set_option linter.unusedVariables false
set_option linter.unusedSimpArgs false
abbrev P0 (g : Nat) : Value := .pointer (some ⟨g, 0, none⟩)
set_option maxHeartbeats 1000000 in
set_option maxRecDepth 100000 in
theorem h_get_no (g bm : Nat) (f : FT) (n : Nat) (x : Int) (w : World) (h : TB w g bm f n) (hx : I64 x) (hno : x < 0 ∨ 64 ≤ x ∨ ∃ i : Nat, i < 64 ∧ x = i ∧ (f i).1 = 0) :
    Calls Try.prog 15 #[P0 g, .int .i64 x] w fun e w' => e = .returned (.tuple #[.agg #[.int .i64 0, .int .i64 0, .int .i64 0], .int .i64 237]) ∧ Same w w' := by
  obtain ⟨D, cm, hb, ho, hc⟩ := h.cell_map
  obtain ⟨hx1, hx2⟩ := hx
  have hmd := hidden (fun w c => h_made g bm w c)
  have hgs : g < w.heap.size := blk_lt hb
  have cm' : ∀ o, (w.alloc o).cell? ⟨g, 192, none⟩ = some (.map (some bm)) := fun o => (same_alloc w o).cell (fun h => h) cm
  rcases hno with hno | hno | ⟨i, hi, rfl, hf⟩
  · have d1 : decide (x < 0) = true := decide_eq_true hno
    go_enter Try.func15, Try.ntmps15
    go_wp2_with (first
      | (go_at_call 26; refine (hmd.out _ (cm' _)).mono ?_; rintro e w1 ⟨rfl, rfl⟩))
    exact bodyPost_ret (v := .tuple #[.agg #[.int .i64 0, .int .i64 0, .int .i64 0], .int .i64 237]) (by simp [results, Try.results15, go_sem]) rfl ⟨rfl, same_alloc _ _⟩
  · have d1 : decide (x < 0) = false := decide_eq_false (by omega)
    have d2 : decide (64 ≤ x) = true := decide_eq_true hno
    go_enter Try.func15, Try.ntmps15
    go_wp2_with (first
      | (go_at_call 26; refine (hmd.out _ (cm' _)).mono ?_; rintro e w1 ⟨rfl, rfl⟩))
    exact bodyPost_ret (v := .tuple #[.agg #[.int .i64 0, .int .i64 0, .int .i64 0], .int .i64 237]) (by simp [results, Try.results15, go_sem]) rfl ⟨rfl, same_alloc _ _⟩
  · obtain ⟨c0, c1, c2⟩ := h.cells hi
    rw [hf] at c1
    have d1 : decide ((i : Int) < 0) = false := decide_eq_false (by omega)
    have d2 : decide (64 ≤ (i : Int)) = false := decide_eq_false (by omega)
    go_enter Try.func15, Try.ntmps15
    go_wp2_with (first
      | (go_at_call 26; refine (hmd.out _ (cm' _)).mono ?_; rintro e w1 ⟨rfl, rfl⟩))
    exact bodyPost_ret (v := .tuple #[.agg #[.int .i64 0, .int .i64 0, .int .i64 0], .int .i64 237]) (by simp [results, Try.results15, go_sem]) rfl ⟨rfl, same_alloc _ _⟩
set_option maxHeartbeats 1000000 in
set_option maxRecDepth 100000 in
theorem h_get (g bm : Nat) (f : FT) (n : Nat) (i : Nat) (w : World) (h : TB w g bm f n) (hi : i < 64) (hf : (f i).1 ≠ 0) :
    Calls Try.prog 15 #[P0 g, .int .i64 i] w fun e w' => e = .returned (.tuple #[.agg #[.int .i64 i, .int .i64 (f i).1, .int .i64 (f i).2], .int .i64 0]) ∧ Same w w' := by
  obtain ⟨D, cm, hb, ho, hc⟩ := h.cell_map
  have hmd := hidden (fun w c => h_made g bm w c)
  have hgs : g < w.heap.size := blk_lt hb
  have cm' : ∀ o, (w.alloc o).cell? ⟨g, 192, none⟩ = some (.map (some bm)) := fun o => (same_alloc w o).cell (fun h => h) cm
  obtain ⟨c0, c1, c2⟩ := h.cells hi
  rw [if_neg hf] at c0
  have d1 : decide ((i : Int) < 0) = false := decide_eq_false (by omega)
  have d2 : decide (64 ≤ (i : Int)) = false := decide_eq_false (by omega)
  have d3 : ((f i).1 == 0) = false := by simpa using hf
  go_enter Try.func15, Try.ntmps15
  go_wp2_with (first
    | (go_at_call 26; refine (hmd.out _ (cm' _)).mono ?_; rintro e w1 ⟨rfl, rfl⟩))
  exact bodyPost_ret (v := .tuple #[.agg #[.int .i64 i, .int .i64 (f i).1, .int .i64 (f i).2], .int .i64 0]) (by simp [results, Try.results15, go_sem]) rfl ⟨rfl, same_alloc _ _⟩
set_option maxHeartbeats 1000000 in
set_option maxRecDepth 100000 in
theorem h_open_full (g bm : Nat) (f : FT) (n : Nat) (x fl : Int) (w : World) (h : TB w g bm f n) (hno : ∀ i, i < 64 → (f i).1 ≠ 0) :
    Calls Try.prog 12 #[P0 g, .int .i64 x, .int .i64 fl] w fun e w' => e = .returned (.tuple #[.int .i64 0, .int .i64 238]) ∧ Same w w' := by
  obtain ⟨D, cm, hb, ho, hc⟩ := h.cell_map
  have hmd := hidden (h_made g bm w cm)
  have hix := hidden (h_index g bm f n 64 (-1) w h (Nat.le_refl _) hno (fun h => by omega) (hidden (fun h => by omega)) (hidden (fun _ => rfl)))
  clear hb ho hc
  go_enter Try.func12, Try.ntmps12
  go_wp2_with (first
    | (go_at_call 26; refine (hmd.out).mono ?_; rintro e w1 ⟨rfl, rfl⟩)
    | (go_at_call 28; refine (hix.out).mono ?_; rintro e w2 ⟨rfl, k2⟩))
  go_ret2
  exact ⟨rfl, k2⟩
set_option maxHeartbeats 1000000 in
set_option maxRecDepth 100000 in
theorem h_open_bad (g bm : Nat) (f : FT) (n : Nat) (x fl : Int) (m : Nat) (w : World) (h : TB w g bm f n) (hm : m < 64) (hno : ∀ i, i < m → (f i).1 ≠ 0) (hat : (f m).1 = 0) (hx : x < 1) :
    Calls Try.prog 12 #[P0 g, .int .i64 x, .int .i64 fl] w fun e w' => e = .returned (.tuple #[.int .i64 0, .int .i64 236]) ∧ Same w w' := by
  obtain ⟨D, cm, hb, ho, hc⟩ := h.cell_map
  have hmd := hidden (h_made g bm w cm)
  have hix := hidden (h_index g bm f n m (m : Int) w h (by omega) hno (fun h => hat) (hidden (fun h => rfl)) (hidden (fun _ => by omega)))
  clear hb ho hc
  go_enter Try.func12, Try.ntmps12
  go_wp2_with (first
    | (go_at_call 26; refine (hmd.out).mono ?_; rintro e w1 ⟨rfl, rfl⟩)
    | (go_at_call 28; refine (hix.out).mono ?_; rintro e w2 ⟨rfl, k2⟩))
  go_ret2
  exact ⟨rfl, k2⟩
set_option maxHeartbeats 1000000 in
set_option maxRecDepth 100000 in
theorem h_open (g bm : Nat) (f : FT) (n : Nat) (x fl : Int) (m : Nat) (w : World) (h : TB w g bm f n) (hm : m < 64) (hno : ∀ i, i < m → (f i).1 ≠ 0) (hat : (f m).1 = 0) (hx1 : 1 ≤ x) (hx : I64 x) (hfl : I64 fl) (hn : n < 9223372036854775807) :
    Calls Try.prog 12 #[P0 g, .int .i64 x, .int .i64 fl] w fun e w' => e = .returned (.tuple #[.int .i64 m, .int .i64 0]) ∧ TB w' g bm (f.set m (x, fl)) (n + 1) ∧ Kept (TS g bm) w w' := by
  obtain ⟨D, cm, hb, ho, hc⟩ := h.cell_map
  have hmd := hidden (h_made g bm w cm)
  have hix := hidden (h_index g bm f n m (m : Int) w h (by omega) hno (fun h => hat) (hidden (fun h => rfl)) (hidden (fun _ => by omega)))
  have hkey := keyOf_int_mk Try.underlying3 hx.wf
  have hne : bm ≠ g := h.ne
  have HB := hidden hb
  have HO := hidden ho
  have HC := hidden hc
  have hcn := cn_le f x 64
  have hat0 := hat
  clear hb ho hc
  go_enter Try.func12, Try.ntmps12
  go_wp2_with (first
    | (go_at_call 26; refine (hmd.out).mono ?_; rintro e w1 ⟨rfl, rfl⟩)
    | (go_at_call 28; refine (hix.out).mono ?_; rintro e w2 ⟨rfl, k2⟩; have b2 := blk_kept k2 (fun h => h) HB.out; have B2 := hidden b2; have O2 := hidden (map_kept HO.out k2 (fun h => h)); have K2 := hidden k2; have hlt2 := blk_lt b2; have f0 := fun j => blk_free (j := j) b2; have cm2 := k2.cell (fun h => h) cm; obtain ⟨q0, q1, q2⟩ := (h.same k2).cells hm; clear b2 k2)
    | (at_lookup; refine wpList_lookup_own_int _ rfl _ _ 46 rfl 3 3 .i64 law3 Try.underlying46 Try.underlying3 (zero3 _) bm n D rfl (((O2.out.setCell hne _).setCell hne _).setCell hne _) _ _ rfl hkey ?_; intro c hat hwc; obtain rfl := HC.out.is hat; clear hat hwc)
    | (at_mapUpdate; refine wpList_mapUpdate_in _ rfl _ _ _ 46 rfl 3 3 law3 Try.underlying46 _ bm n D rfl (((O2.out.setCell hne _).setCell hne _).setCell hne _) hn _ _ _ rfl rfl hkey _ [] (plainElem_int Try.underlying3 (WalkArith.wf_i64 ⟨by omega, by omega⟩)) ?_; intro w3 o3 t3)
    | go_in)
  go_ret2
  have g3 := t3.grown
  have b3 := g3.block g (by simpa [World.setCell] using hlt2) (fun e => hne (by simpa using e.symm))
  rw [blk_set (blk_set (blk_set B2.out _) _) _, TC_set f bm m hm (m : Int) x fl (by rw [if_neg (by omega)])] at b3
  refine ⟨rfl, ⟨b3, ⟨_, o3, HC.out.opened hm hat0 (by omega) fl _ rfl⟩, h.goo.set m (.inr ⟨hx1, hx.2, hfl.1, hfl.2⟩)⟩, ?_⟩
  refine Kept.grown (((Kept.setCell (Kept.setCell (Kept.setCell (K2.out.mono (fun _ _ h => h.elim)) ?_ _) ?_ _) ?_ _))) g3 (fun k e _ => ?_)
  · exact .inl rfl
  · exact .inl rfl
  · exact .inl rfl
  · cases e; exact .inr rfl
set_option maxHeartbeats 1000000 in
set_option maxRecDepth 100000 in
theorem h_close_no (g bm : Nat) (f : FT) (n : Nat) (x : Int) (w : World) (h : TB w g bm f n) (hx : I64 x) (hno : x < 0 ∨ 64 ≤ x ∨ ∃ i : Nat, i < 64 ∧ x = i ∧ (f i).1 = 0) :
    Calls Try.prog 14 #[P0 g, .int .i64 x] w fun e w' => e = .returned (.tuple #[.int .i64 0, .bool false, .int .i64 237]) ∧ Same w w' := by
  have hgt := hidden (h_get_no g bm f n x w h hx hno)
  go_enter Try.func14, Try.ntmps14
  go_wp2_with (first
    | (go_at_call 15; refine (hgt.out).mono ?_; rintro e w1 ⟨rfl, k1⟩))
  exact bodyPost_ret (v := .tuple #[.int .i64 0, .bool false, .int .i64 237]) (by simp [results, Try.results14, go_sem]) rfl ⟨rfl, k1.alloc _⟩
theorem look_run {w : World} {bm n : Nat} {D : DataW Unit} (ho : w.ownsMap Try.prog 3 (plainElem Try.prog 3) bm n D) {x c : Int} (hx : I64 x) (hat : D.atKey (.int .i64 x) (.lit (.int .i64 0)) = .lit (.int .i64 c)) :
    (Instr.lookup 46 (.map (some bm)) (.int .i64 x) false).run Try.prog w = .ok (.int .i64 c) w := by
  obtain ⟨c', hrun, hat', _⟩ := ho.lookup_int law3 Try.underlying46 Try.underlying3 (zero3 _) (keyOf_int_mk Try.underlying3 hx.wf)
  have e := hat.symm.trans hat'
  injection e with h1
  injection h1 with _ h2
  rw [h2]
  exact hrun
set_option maxHeartbeats 1000000 in
set_option maxRecDepth 100000 in
theorem h_close (g bm : Nat) (f : FT) (n : Nat) (i : Nat) (w : World) (h : TB w g bm f n) (hi : i < 64) (hf : (f i).1 ≠ 0) (hn : n < 9223372036854775807) :
    Calls Try.prog 14 #[P0 g, .int .i64 i] w fun e w' => e = .returned (.tuple #[.int .i64 (f i).1, .bool (decide (cn f (f i).1 64 = 1)), .int .i64 0]) ∧ TB w' g bm (f.set i (0, 0)) (n + 1) ∧ Kept (TS g bm) w w' := by
  obtain ⟨D, cm, hb, ho, hc⟩ := h.cell_map
  have hgt := hidden (h_get g bm f n i w h hi hf)
  have hne : bm ≠ g := h.ne
  have hxr : I64 (f i).1 := by
    rcases h.goo.ok i hi with h1 | h1
    · exact absurd h1.1 hf
    · exact ⟨by omega, by omega⟩
  have hkey := keyOf_int_mk Try.underlying3 hxr.wf
  have HB := hidden hb
  have HO := hidden ho
  have HC := hidden hc
  have hcn := cn_le f (f i).1 64
  have hcp := cn_pos f (f i).1 hf 64 i hi rfl
  clear hb ho hc
  have hfi : Hid ((f i).1 = (f i).1) := hidden rfl
  generalize hX : (f i).1 = X at *
  have HX := hidden hX
  clear hX
  go_enter Try.func14, Try.ntmps14
  go_wp2_with (first
    | (go_at_call 15; refine (hgt.out).mono ?_; rintro e w2 ⟨rfl, k2⟩; have b2 := blk_kept k2 (fun h => h) HB.out; have B2 := hidden b2; have O2 := hidden (map_kept HO.out k2 (fun h => h)); have K2 := hidden k2; have hlt2 := blk_lt b2; have f0 := fun j => blk_free (j := j) b2; have cm2 := k2.cell (fun h => h) cm; obtain ⟨q0, q1, q2⟩ := (h.same k2).cells hi; clear b2 k2)
    | go_in)
  have hsz : w2.heap.size = (((w2.setCell ⟨g, i * 3, none⟩ (.int .i64 0)).setCell ⟨g, i * 3 + 1, none⟩ (.int .i64 0)).setCell ⟨g, i * 3 + 2, none⟩ (.int .i64 0)).heap.size := by simp [World.setCell]
  obtain ⟨W0, hW0⟩ : ∃ W, W = ((w2.setCell ⟨g, i * 3, none⟩ (.int .i64 0)).setCell ⟨g, i * 3 + 1, none⟩ (.int .i64 0)).setCell ⟨g, i * 3 + 2, none⟩ (.int .i64 0) := ⟨_, rfl⟩
  have bW0 : W0.heap[g]? = some (.cells (TC (f.set i (0, 0)) bm) 48 (0, 0)) := by
    rw [hW0, blk_set (blk_set (blk_set B2.out _) _) _, TC_set f bm i hi 0 0 0 (by simp)]
  have oW0 : W0.ownsMap Try.prog 3 (plainElem Try.prog 3) bm n D := by rw [hW0]; exact ((O2.out.setCell hne _).setCell hne _).setCell hne _
  have kW0 : Kept (TS g bm) w W0 := by
    rw [hW0]
    exact Kept.setCell (Kept.setCell (Kept.setCell (K2.out.mono (fun _ _ h => h.elim)) (.inl rfl) _) (.inl rfl) _) (.inl rfl) _
  rw [← hW0] at hsz ⊢
  rw [hsz]
  clear hW0 hsz q0 q1 q2 f0 hlt2
  have hx1 := blk_new W0 (.cells #[.int .i64 i, .int .i64 X, .int .i64 (f i).2] 44)
  have bW := blk_alloc bW0 (.cells #[.int .i64 i, .int .i64 X, .int .i64 (f i).2] 44)
  have oW := oW0.alloc (.cells #[.int .i64 i, .int .i64 X, .int .i64 (f i).2] 44)
  have kW := kW0.alloc (.cells #[.int .i64 i, .int .i64 X, .int .i64 (f i).2] 44)
  have nbx : W0.heap.size ≠ bm := fun e => by have := oW0.lt; omega
  have ngx : W0.heap.size ≠ g := fun e => by have := blk_lt bW0; omega
  generalize W0.heap.size = bx at *
  generalize W0.alloc (.cells #[.int .i64 i, .int .i64 X, .int .i64 (f i).2] 44) = W at *
  clear bW0 oW0 kW0
  have BW := hidden bW
  have OW := hidden oW
  have KW := hidden kW
  have X1 := hidden hx1
  have hl1 := look_run (w := W.drew) oW.drew hxr (HC.out.at_ X)
  have c192 : W.cell? ⟨g, 192, none⟩ = some (.map (some bm)) := (blk_cell bW).trans (TC_map _ _)
  have cbx : W.cell? ⟨bx, 1, none⟩ = some (.int .i64 X) := (blk_cell hx1).trans rfl
  have hwr : IntKind.i64.wrap ((cn f X 64 : Int) - 1) = (cn f X 64 : Int) - 1 := by rw [IntKind.wrap_i64]; omega
  clear bW oW kW hx1
  refine wp_region_still_tail 8 (by kernel_rfl) (by kernel_rfl) ?_
  change wpStill Try.prog _ W.drew (fun a' => wpList Try.prog _ _ _ a' W.drew) _ _
  simp only [List.take_succ_cons, List.take_zero, List.drop_succ_cons, List.drop_zero]
  repeat still_step
  refine wpStill_nil ?_
  go_wp2_with (first
    | (at_mapUpdate; refine wpList_mapUpdate_in _ rfl _ _ _ 46 rfl 3 3 law3 Try.underlying46 _ bm n D rfl OW.out.drew hn _ _ _ rfl rfl hkey _ [] (plainElem_int Try.underlying3 (WalkArith.wf_i64 ⟨by omega, by omega⟩)) ?_; intro w3 o3 t3)
    | go_in)
  have g3 := t3.grown
  have b3 := (g3.block g (by exact blk_lt BW.out) (fun e => hne (by simpa using e.symm))).trans BW.out
  have x3 := (g3.block bx (by exact blk_lt X1.out) (fun e => nbx (by simpa using e))).trans X1.out
  have k3 : Kept (TS g bm) w w3 := KW.out.drew.grown g3 (fun k e _ => by cases e; exact .inr rfl)
  have hat3 : (D.put (.int .i64 X) (.lit (.int .i64 ((cn f X 64 : Int) - 1)))).atKey (.int .i64 X) (.lit (.int .i64 0)) = .lit (.int .i64 ((cn f X 64 : Int) - 1)) := atKey_put_same (k := .int .i64 X) HC.out.isMap trivial _ _
  have hl3 : ∀ n : Nat, (Instr.lookup 46 (.map (some bm)) (.int .i64 X) false).run Try.prog (w3.drewN n) = .ok (.int .i64 ((cn f X 64 : Int) - 1)) (w3.drewN n) := fun m => look_run (map_kept o3 ((Kept.refl (fun _ => False) w3).drewN m) (fun h => h)) hxr hat3
  have d192 : w3.cell? ⟨g, 192, none⟩ = some (.map (some bm)) := (blk_cell b3).trans (TC_map _ _)
  have dbx : w3.cell? ⟨bx, 1, none⟩ = some (.int .i64 X) := (blk_cell x3).trans rfl
  have B3 := hidden b3
  have X3 := hidden x3
  have K3 := hidden k3
  have O3 := hidden o3
  clear g3 b3 x3 k3 o3 t3 hat3 hl1 c192 cbx hwr
  go_quiet (fail)
  generalize hV : w3.drewN nq = V
  have dV : Kept (fun _ => False) w3 V := hV ▸ (Kept.refl _ w3).drewN nq
  have e192 : V.cell? ⟨g, 192, none⟩ = some (.map (some bm)) := dV.cell (fun h => h) d192
  have ebx : V.cell? ⟨bx, 1, none⟩ = some (.int .i64 X) := dV.cell (fun h => h) dbx
  have BV := hidden (blk_kept dV (fun h => h) B3.out)
  have XV := hidden (blk_kept dV (fun h => h) X3.out)
  have OV := hidden (map_kept O3.out dV (fun h => h))
  have KV := hidden (K3.out.trans (dV.mono (fun _ _ h => h.elim)))
  clear hV dV d192 dbx hl3
  by_cases h1 : 1 < cn f X 64
  · have dd : decide ((1 : Int) < (cn f X 64 : Int)) = true := decide_eq_true (by omega)
    have d1 : decide (cn f X 64 = 1) = false := decide_eq_false (by omega)
    go_wp2
    refine bodyPost_ret (v := .tuple #[.int .i64 X, .bool false, .int .i64 0]) (by simp [results, Try.results14, go_sem]) rfl ⟨by first | rfl | rw [d1], ⟨BV.out, ⟨_, OV.out, HC.out.closed hi HX.out hf _ rfl h1⟩, h.goo.set i (.inl ⟨rfl, rfl⟩)⟩, KV.out⟩
  · have dd : decide ((1 : Int) < (cn f X 64 : Int)) = false := decide_eq_false (by omega)
    have d1 : decide (cn f X 64 = 1) = true := decide_eq_true (by omega)
    have h1' : cn f X 64 = 1 := by omega
    have H1 := hidden h1'
    have h1i : (cn f X 64 : Int) ≤ 1 := by omega
    clear h1' h1
    go_wp2
    refine wp_region_still_tail 6 (by kernel_rfl) (by kernel_rfl) ?_
    change wpStill Try.prog _ V.drew (fun a' => wpList Try.prog _ _ _ a' V.drew) _ _
    simp only [List.take_succ_cons, List.take_zero, List.drop_succ_cons, List.drop_zero]
    repeat still_step
    refine wpStill_nil ?_
    go_wp2_with (first
      | (at_delete; refine wpList_delete_own _ rfl _ _ 46 3 rfl 3 law3 Try.underlying46 _ bm (n + 1) _ rfl OV.out.drew _ _ rfl hkey ?_; intro w5 o5 t5; have g5 := t5.grown; have b5 := (g5.block g (by exact blk_lt BV.out) (fun e => hne (by simpa using e.symm))).trans BV.out; have x5 := (g5.block bx (by exact blk_lt XV.out) (fun e => nbx (by simpa using e))).trans XV.out; have c5 : w5.cell? ⟨bx, 1, none⟩ = some (.int .i64 X) := ((blk_cell x5).trans rfl); have K5 := hidden (KV.out.drew.grown g5 (fun k e _ => by cases e; exact .inr rfl)); have B5 := hidden b5; have O5 := hidden o5; clear g5 b5 x5 o5 t5)
      | go_in)
    refine bodyPost_ret (v := .tuple #[.int .i64 X, .bool true, .int .i64 0]) (by simp [results, Try.results14, go_sem]) rfl ⟨by first | rfl | rw [d1], ⟨B5.out, ⟨_, O5.out, HC.out.last hi HX.out hf _ H1.out⟩, h.goo.set i (.inl ⟨rfl, rfl⟩)⟩, K5.out⟩
end Go.Proofs.Ytiffkcffcjembaa
