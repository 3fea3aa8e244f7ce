/- cut's piece: cutAhead and grow, walked. -/
import Derived.Test.YtdmekpokgnieeaaDoorCut1
import Derived.Deep.DrawnRows
import Derived.Deep.RegionHeld3
namespace Go.Proofs.YtdmekpokgnieeaaDoor
open Go.RowKit
set_option linter.unusedVariables false
attribute [local go_sem ↓] Go.wp_at_zero Go.wp_at_succ

abbrev only (g : Nat) : Nat → Prop := fun k => k = g
/-- A piece in memory. -/
structure Pc (g o len h : Nat) (w : World) : Prop where
  c0 : w.cell? ⟨g, o, none⟩ = some (.int .i64 len)
  c1 : w.cell? ⟨g, o + 1, none⟩ = some (.int .u64 h)
  f0 : w.frozen? ⟨g, o, none⟩ = false
  f1 : w.frozen? ⟨g, o + 1, none⟩ = false
/-- Only a piece has turned. -/
structure Upd (g o : Nat) (w w' : World) : Prop where
  kept : Kept (only g) w w'
  cell : ∀ j, j ≠ o → j ≠ o + 1 → w'.cell? ⟨g, j, none⟩ = w.cell? ⟨g, j, none⟩
  free : ∀ j, w'.frozen? ⟨g, j, none⟩ = w.frozen? ⟨g, j, none⟩
theorem Upd.refl (g o : Nat) (w : World) : Upd g o w w := ⟨Kept.refl _ _, fun _ _ _ => rfl, fun _ => rfl⟩
theorem Upd.trans {g o : Nat} {a b c : World} (h : Upd g o a b) (k : Upd g o b c) : Upd g o a c := ⟨h.kept.trans k.kept, fun j h1 h2 => (k.cell j h1 h2).trans (h.cell j h1 h2), fun j => (k.free j).trans (h.free j)⟩
theorem same_cell {w w' : World} (k : Same w w') {g j : Nat} (hg : g < w.heap.size) : w'.cell? ⟨g, j, none⟩ = w.cell? ⟨g, j, none⟩ := World.cell?_of_block (k.block g hg (fun h => h))
theorem same_free {w w' : World} (k : Same w w') {g j : Nat} (hg : g < w.heap.size) : w'.frozen? ⟨g, j, none⟩ = w.frozen? ⟨g, j, none⟩ := by
  have := k.block g hg (fun h => h)
  simp only [World.frozen?, this]
theorem Upd.same {g o : Nat} {w w' : World} (k : Same w w') (hg : g < w.heap.size) : Upd g o w w' := ⟨k.mono fun _ _ h => h.elim, fun j _ _ => same_cell k hg, fun j => same_free k hg⟩
theorem Pc.lt {g o len h : Nat} {w : World} (p : Pc g o len h w) : g < w.heap.size := World.block_lt_of_cell? w _ p.c0
theorem Pc.same {g o len h : Nat} {w w' : World} (p : Pc g o len h w) (k : Same w w') : Pc g o len h w' :=
  ⟨(same_cell k p.lt).trans p.c0, (same_cell k p.lt).trans p.c1, (same_free k p.lt).trans p.f0, (same_free k p.lt).trans p.f1⟩
theorem Pc.put0 {g o len h : Nat} {w : World} (p : Pc g o len h w) (n : Nat) : Pc g o n h (w.setCell ⟨g, o, none⟩ (.int .i64 n)) :=
  ⟨World.cell?_setCell_same' _ _ _ (by rw [p.c0]; rfl), (World.cell?_setCell_other _ _ _ _ (by simp)).trans p.c1, by rw [World.frozen?_setCell]; exact p.f0, by rw [World.frozen?_setCell]; exact p.f1⟩
theorem Pc.put1 {g o len h : Nat} {w : World} (p : Pc g o len h w) (n : Nat) : Pc g o len n (w.setCell ⟨g, o + 1, none⟩ (.int .u64 n)) :=
  ⟨(World.cell?_setCell_other _ _ _ _ (by simp)).trans p.c0, World.cell?_setCell_same' _ _ _ (by rw [p.c1]; rfl), by rw [World.frozen?_setCell]; exact p.f0, by rw [World.frozen?_setCell]; exact p.f1⟩
theorem Upd.put0 (g o : Nat) (w : World) (v : Value) : Upd g o w (w.setCell ⟨g, o, none⟩ v) :=
  ⟨(Kept.refl (only g) w).setCell (p := ⟨g, o, none⟩) rfl v, fun j h _ => World.cell?_setCell_other _ _ _ _ (fun e => h (congrArg Addr.off e).symm), fun j => World.frozen?_setCell _ _ _ _⟩
theorem Upd.put1 (g o : Nat) (w : World) (v : Value) : Upd g o w (w.setCell ⟨g, o + 1, none⟩ v) :=
  ⟨(Kept.refl (only g) w).setCell (p := ⟨g, o + 1, none⟩) rfl v, fun j _ h => World.cell?_setCell_other _ _ _ _ (fun e => h (congrArg Addr.off e).symm), fun j => World.frozen?_setCell _ _ _ _⟩
theorem Upd.drew {g o : Nat} {w w' : World} (h : Upd g o w w') : Upd g o w w'.drew := ⟨h.kept.drew, h.cell, h.free⟩
theorem Upd.drewN {g o : Nat} {w w' : World} (h : Upd g o w w') : ∀ n, Upd g o w (w'.drewN n)
  | 0 => h
  | n + 1 => (Upd.drewN h n).drew
theorem Pc.drew {g o len h : Nat} {w : World} (p : Pc g o len h w) : Pc g o len h w.drew := ⟨p.c0, p.c1, p.f0, p.f1⟩
theorem Pc.drewN {g o len h : Nat} {w : World} (p : Pc g o len h w) (n : Nat) : Pc g o len h (w.drewN n) := p.same ((Kept.refl _ _).drewN n)
set_option maxHeartbeats 1000000 in
set_option maxRecDepth 100000 in
theorem ahead_few (c : Shp) (hc : c.Ok) {g o len h : Nat} {w : World} (p : Pc g o len h w) (x : UInt8) (hlt : len < c.mn) :
    Calls Tryd.prog 31 #[.pointer (some ⟨g, o, none⟩), .agg #[.int .i64 c.mn, .int .i64 c.no, .int .i64 c.mx, .int .u64 c.seed], .int .u8 (x.toNat : Nat)] w fun e w' => e = .returned (.bool false) ∧ Pc g o len h w' ∧ Upd g o w w' := by
  have HP := hidden (p.same (same_alloc w (.cells #[.int .i64 c.mn, .int .i64 c.no, .int .i64 c.mx, .int .u64 c.seed] 24)))
  have HU : Hid (Upd g o w (w.alloc (.cells #[.int .i64 c.mn, .int .i64 c.no, .int .i64 c.mx, .int .u64 c.seed] 24))) := hidden (Upd.same (same_alloc _ _) p.lt)
  have r0 : (w.alloc (.cells #[.int .i64 c.mn, .int .i64 c.no, .int .i64 c.mx, .int .u64 c.seed] 24)).cell? ⟨g, o, none⟩ = some (.int .i64 len) := HP.out.c0
  clear p
  generalize c.mn = mn at *
  have hlt' : decide ((len : Int) < (mn : Int)) = true := decide_eq_true (by omega)
  go_enter Tryd.func31, Tryd.ntmps31
  go_wp2
  go_quiet (fail)
  go_wp2
  go_returns
  exact ⟨rfl, HP.out.drewN _, HU.out.drewN _⟩
theorem hash_int (a b : Nat) (ha : a < 18446744073709551616) (hb : b < 18446744073709551616) : IntKind.u64.wrap (IntKind.u64.wrap (2 * (a : Int)) + (b : Int)) = (((2 * a + b) % 18446744073709551616 : Nat) : Int) := by
  rw [IntKind.wrap_u64, IntKind.wrap_u64]
  omega
theorem hit_int (a y : Nat) : ((a : Int) / 2 ^ y == 0) = decide (a / 2 ^ y = 0) := by
  have e : (a : Int) / 2 ^ y = ((a / 2 ^ y : Nat) : Int) := by simp
  rw [e]
  generalize a / 2 ^ y = q
  by_cases h : q = 0
  · subst h; rfl
  · rw [decide_eq_false h]
    exact beq_eq_false_iff_ne.2 (by omega)
set_option maxHeartbeats 2000000 in
set_option maxRecDepth 100000 in
theorem ahead_more (c : Shp) (hc : c.Ok) {g o len h : Nat} {w : World} (p : Pc g o len h w) (hT : Tab w) (htg : 1 ≠ g) (x : UInt8) (hh : h < 18446744073709551616) (hge : c.mn ≤ len) (hlen : len ≤ 1000000) :
    Calls Tryd.prog 31 #[.pointer (some ⟨g, o, none⟩), .agg #[.int .i64 c.mn, .int .i64 c.no, .int .i64 c.mx, .int .u64 c.seed], .int .u8 (x.toNat : Nat)] w fun e w' => e = .returned (.bool (c.hit len (c.hash h x))) ∧ Pc g o len (c.hash h x) w' ∧ Upd g o w w' := by
  have hgl := p.lt
  obtain ⟨W, hW⟩ : ∃ W, W = w.alloc (.cells #[.int .i64 c.mn, .int .i64 c.no, .int .i64 c.mx, .int .u64 c.seed] 24) := ⟨_, rfl⟩
  have hWk : Same w W := by rw [hW]; exact same_alloc _ _
  have hWb : W.heap[w.heap.size]? = some (.cells #[.int .i64 c.mn, .int .i64 c.no, .int .i64 c.mx, .int .u64 c.seed] 24 (0, 0)) := by rw [hW]; exact blk_new w _
  have HP := hidden (p.same hWk)
  have HU : Hid (Upd g o w W) := hidden (Upd.same hWk p.lt)
  have HT := hidden (hT.same hWk)
  have HG := hidden (fun w => gear_any c.seed x w hc.sd)
  have HZ := hidden (fun w hT => zeros_any c hc len w hlen hT)
  have hzl := hc.zer_le len
  have hgl2 := gearN_lt c.seed x
  have HH : Hid (c.hash h x = (2 * h + gearN c.seed x) % 18446744073709551616) := hidden rfl
  have HHT : Hid (c.hit len (c.hash h x) = decide (c.hash h x / 2 ^ (64 - c.zer len) = 0)) := hidden rfl
  have e1 := hash_int h (gearN c.seed x) hh hgl2
  rw [← HH.out] at e1
  have hhl := c.hash_lt h x
  generalize c.hit len (c.hash h x) = H at *
  generalize c.hash h x = h2 at *
  generalize gearN c.seed x = gn at *
  generalize c.zer len = z at *
  have r0 : W.cell? ⟨g, o, none⟩ = some (.int .i64 len) := HP.out.c0
  have r1 : W.cell? ⟨g, o + 1, none⟩ = some (.int .u64 h) := HP.out.c1
  have s1 : W.frozen? ⟨g, o + 1, none⟩ = false := HP.out.f1
  have b0 : W.cell? ⟨w.heap.size, 0, none⟩ = some (.int .i64 c.mn) := blk_cell hWb
  have b3 : W.cell? ⟨w.heap.size, 3, none⟩ = some (.int .u64 c.seed) := blk_cell hWb
  have HB := hidden hWb
  have hge' : ¬ len < c.mn := by omega
  clear p hT hWb hc hge hhl hh hgl2
  go_enter Tryd.func31, Tryd.ntmps31
  go_wp2
  rw [← hW]
  clear hW hWk
  go_quiet (fail)
  go_wp2
  refine wp_region_still_tail 13 (by kernel_rfl) (by kernel_rfl) ?_
  change wpStill Tryd.prog _ (W.drewN nq).drew (fun a' => wpList Tryd.prog _ _ _ a' (W.drewN nq).drew) _ _
  simp only [List.take_succ_cons, List.take_zero, List.drop_succ_cons, List.drop_zero]
  repeat still_step
  still_call ((HG.out _).mono fun e w' ⟨a, b⟩ => ⟨a, b.symm⟩)
  repeat still_step
  refine wpStill_nil ?_
  go_wp2
  have PV := (HP.out.drewN (nq + 1)).put1 h2
  have UV := (HU.out.drewN (nq + 1)).trans (Upd.put1 g o _ (.int .u64 (h2 : Nat)))
  have UW := ((Upd.refl g o W).drewN (nq + 1)).trans (Upd.put1 g o _ (.int .u64 (h2 : Nat)))
  clear r0 r1 s1 b0 b3
  generalize (W.drewN (nq + 1)).setCell ⟨g, o + 1, none⟩ (.int .u64 (h2 : Nat)) = V at *
  have hBV := blk_kept UW.kept (fun e => absurd (show w.heap.size = g from e) (by omega)) HB.out
  have TV := hidden (HT.out.kept UW.kept htg)
  have r0 : V.cell? ⟨g, o, none⟩ = some (.int .i64 len) := PV.c0
  have r1 : V.cell? ⟨g, o + 1, none⟩ = some (.int .u64 h2) := PV.c1
  have b0 : V.cell? ⟨w.heap.size, 0, none⟩ = some (.int .i64 c.mn) := blk_cell hBV
  have b1 : V.cell? ⟨w.heap.size, 1, none⟩ = some (.int .i64 c.no) := blk_cell hBV
  have b2 : V.cell? ⟨w.heap.size, 2, none⟩ = some (.int .i64 c.mx) := blk_cell hBV
  have b3 : V.cell? ⟨w.heap.size, 3, none⟩ = some (.int .u64 c.seed) := blk_cell hBV
  have HPV := hidden PV
  have HUV := hidden UV
  obtain ⟨hz1, hz2⟩ := hzl
  obtain ⟨y, hy⟩ : ∃ y : Nat, y = 64 - z := ⟨_, rfl⟩
  have hy' : (64 : Int) - (z : Int) = (y : Int) := by omega
  rw [← hy] at HHT
  have hwy : IntKind.i64.wrap (y : Int) = (y : Int) := by rw [IntKind.wrap_i64]; omega
  clear PV UV UW hBV HU HP HB HT HH e1 hy hz1 hz2
  go_region_with (go_at_call 33; refine (HZ.out _ TV.out.drew).mono ?_; rintro e w3 ⟨rfl, k3⟩; have q1 : w3.cell? ⟨g, o + 1, none⟩ = some (.int .u64 h2) := (HPV.out.drew.same k3).c1; have q0 : w3.cell? ⟨g, o, none⟩ = some (.int .i64 len) := (HPV.out.drew.same k3).c0)
  all_goals
    go_wp2
    go_returns
    refine ⟨?_, HPV.out.drew.same k3, HUV.out.drew.trans (Upd.same k3 HPV.out.drew.lt)⟩
    rw [HHT.out]
    exact congrArg (fun b => Ending.returned (.bool b)) (hit_int h2 y)
end Go.Proofs.YtdmekpokgnieeaaDoor
