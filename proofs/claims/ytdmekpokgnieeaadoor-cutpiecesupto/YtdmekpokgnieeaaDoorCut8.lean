/- cut's Lengths, walked. -/
import Derived.Test.YtdmekpokgnieeaaDoorCut7
namespace Go.Proofs.YtdmekpokgnieeaaDoor
open Go.RowKit Go.Shelf
set_option linter.unusedVariables false
attribute [local go_sem] Oper.semAt_some

theorem infoInt : (Tryd.prog.info? 3).map (fun i => (i.zero, i.size, i.bytes)) = some (some (.int .i64 0), 1, 8) := by kernel_rfl
theorem own_weak {w : World} {b b' : Nat} {e : TypeId} {size : Nat} {v : Value} {n : Nat} {xs : List Value} (h : w.ownsRow b e size v n xs) (hb : b' ≤ b) : w.ownsRow b' e size v n xs := by
  refine ⟨h.1, ?_⟩
  rcases h.2 with h1 | ⟨g, cap, cur, h1, h2, hh⟩
  · exact Or.inl h1
  · exact Or.inr ⟨g, cap, cur, h1, by omega, hh⟩
theorem own_ge {w : World} {b : Nat} {e : TypeId} {size : Nat} {v : Value} {n : Nat} {xs : List Value} (h : w.ownsRow b e size v n xs) (k : Nat) (hk : v.ownBlock = some k) : b ≤ k := by
  rcases h.2 with ⟨h1, _⟩ | ⟨g, cap, cur, h1, h2, hh⟩
  · rw [h1] at hk; cases hk
  · rw [h1] at hk
    simp only [Value.ownBlock, Option.some.injEq] at hk
    omega
theorem kept_putObj {S : Nat → Prop} (W : World) (l : Nat) (o : Obj) (hl : S l) : Kept S W (W.putObj l o) :=
  (Kept.refl S W).grown (grownBy_putObj' W l o) (fun k e _ => by cases e; exact hl)
theorem same_of_below {w W : World} (h : Below w.heap.size w W) : Same w W := ⟨h.os, h.tape, h.output, h.size, fun k hk _ => h.block k hk⟩
/-- A slice of ints of the call's own, or none. -/
def Ints (B : Nat) (w : World) (v : Value) (l : List Nat) : Prop := w.ownsRow B 3 1 v l.length (l.map fun (n : Nat) => Value.int .i64 (n : Int))
theorem map_places (t : List Nat) : ((places 0 t).map fun x => Value.int .i64 (x.2 : Int)) = t.map fun (n : Nat) => Value.int .i64 (n : Int) := by
  have h : ((places 0 t).map fun x => Value.int .i64 (x.2 : Int)) = ((places 0 t).map (·.2)).map fun (n : Nat) => Value.int .i64 (n : Int) := by rw [List.map_map]; rfl
  rw [h, places_snd]
set_option maxRecDepth 100000 in
set_option maxHeartbeats 4000000 in
theorem lengths_yes (c : Shp) (hc : c.Ok) {w : World} (hT : Tab w) {v : Value} {l : List UInt8} (hb : Byt w v l) (hl : l.length ≤ 1099511627776) :
    Calls Tryd.prog 7 #[.agg #[.int .i64 c.mn, .int .i64 c.no, .int .i64 c.mx, .int .u64 c.seed], v] w fun e w' => ∃ u, e = .returned (.tuple #[u, .int .i64 0]) ∧ Ints w.heap.size w' u (c.lens l) ∧ Same w w' := by
  obtain ⟨i0, hi, hz0, hz1, hz2⟩ := info_parts infoInt
  obtain ⟨a, cap, rfl, hcap, hcell⟩ := hb.form
  have HCE := hidden hcell
  have HC := hidden hc
  have HT := hidden hT
  have hlt := hT.lt
  have HLL := hidden (Nat.le_trans (c.lens_len hc l.length l (Nat.le_refl _)) hl)
  have HK := hidden (fun w => (callsIn_wide (n := 5)).2 (check_yes c hc w))
  have HPC := hidden (fun w => (callsIn_wide (n := 5)).2 (pieces_any c a l.length cap w))
  have K0 : Hid (Same w (w.alloc (.cells #[.int .i64 c.mn, .int .i64 c.no, .int .i64 c.mx, .int .u64 c.seed] 24))) := hidden (same_alloc _ _)
  clear hcell hc hT hb
  refine (callsIn_wide (n := 6)).1 ?_
  refine callsIn_of_wp_marks Tryd.func7 rfl trivial ?_ rfl
  simp only [Tryd.ntmps7, List.size_toArray, List.length_cons, List.length_nil, Nat.reduceAdd, Nat.reduceSub, Array.replicate_succ, Array.replicate_zero, List.push_toArray, List.append_toArray, List.nil_append, List.cons_append]
  gi_wp2_with (first
    | (refine ⟨trivial, ?_⟩; gi_at_call 20; refine (HK.out _).mono ?_; rintro e w1 ⟨rfl, k1⟩; have b0 : w1.cell? ⟨w.heap.size, 0, none⟩ = some (.int .i64 c.mn) := box_cell 0 k1 rfl; have b1 : w1.cell? ⟨w.heap.size, 1, none⟩ = some (.int .i64 c.no) := box_cell 1 k1 rfl; have b2 : w1.cell? ⟨w.heap.size, 2, none⟩ = some (.int .i64 c.mx) := box_cell 2 k1 rfl; have b3 : w1.cell? ⟨w.heap.size, 3, none⟩ = some (.int .u64 c.seed) := box_cell 3 k1 rfl; have KW : Hid (Same w w1) := hidden (Kept.trans K0.out k1); have hz : w.heap.size < w1.heap.size := (by have := k1.size; simp at this; omega))
    | (refine ⟨trivial, ?_⟩; gi_at_call 21; refine (HPC.out _).mono ?_; rintro e w2 ⟨rfl, rfl⟩))
  obtain ⟨H, hH⟩ : ∃ H, H = w1.heap.size := ⟨_, rfl⟩
  have kS := (same_alloc w1 (.cells #[.slice none 0 0] 27)).trans ((same_alloc _ (.cells #[.int .i64 c.mn, .int .i64 c.no, .int .i64 c.mx, .int .u64 c.seed] 24)).trans (same_alloc _ (.cells #[.slice a l.length cap] 25)))
  have bO := ((Boxed.new w1 27 (.slice none 0 0)).alloc (.cells #[.int .i64 c.mn, .int .i64 c.no, .int .i64 c.mx, .int .u64 c.seed] 24)).alloc (.cells #[.slice a l.length cap] 25)
  have bC := blk_alloc (blk_new (w1.alloc (.cells #[.slice none 0 0] 27)) (.cells #[.int .i64 c.mn, .int .i64 c.no, .int .i64 c.mx, .int .u64 c.seed] 24)) (.cells #[.slice a l.length cap] 25)
  have bB := Boxed.new ((w1.alloc (.cells #[.slice none 0 0] 27)).alloc (.cells #[.int .i64 c.mn, .int .i64 c.no, .int .i64 c.mx, .int .u64 c.seed] 24)) 25 (.slice a l.length cap)
  have hsz : (((w1.alloc (.cells #[.slice none 0 0] 27)).alloc (.cells #[.int .i64 c.mn, .int .i64 c.no, .int .i64 c.mx, .int .u64 c.seed] 24)).alloc (.cells #[.slice a l.length cap] 25)).heap.size = H + 3 := by rw [hH]; simp
  simp only [World.size_alloc] at bC bB
  rw [← hH] at bO bC bB ⊢
  have KB := Kept.trans KW.out kS
  clear kS b0 b1 b2 b3
  generalize ((w1.alloc (.cells #[.slice none 0 0] 27)).alloc (.cells #[.int .i64 c.mn, .int .i64 c.no, .int .i64 c.mx, .int .u64 c.seed] 24)).alloc (.cells #[.slice a l.length cap] 25) = WB at *
  have hHw : w.heap.size < H := by omega
  clear hH hz
  have hrun := pieces_stops 5 (by decide) c HC.out a cap l hcap (H + 1 + 1) (H + 1) (fun k => k = H ∨ H + 3 ≤ k) WB (by omega) (by omega) (by omega) (by omega) bB.cell (blk_cell bC) (blk_cell bC) (blk_cell bC) (blk_cell bC)
    (fun hp => by
      obtain ⟨b, off, e, hce⟩ := HCE.out hp
      have hlb : b < w.heap.size := World.block_lt_of_cell? w _ (hce 0 l[0] (List.getElem?_eq_getElem hp))
      exact ⟨b, off, e, by omega, fun j x hj => KB.cell (p := ⟨b, off + j, none⟩) (fun h => h) (hce j x hj)⟩)
    (HT.out.same KB)
  have HB0 : Hid (Below w.heap.size w WB) := hidden (KB.below (Nat.le_refl _) fun _ h => h.elim)
  refine wpIn_rangeFunc_ownG rfl (by decide) (gf := 29) (lb := #[.pointer (some ⟨H + 1 + 1, 0, none⟩), .pointer (some ⟨H + 1, 0, none⟩)]) rfl trivial (enters_of Tryd.func29 (by kernel_rfl) rfl)
    hrun (fun h k => h.trans k) (fun W l o o' hl _ _ _ => kept_putObj W l o' (by rw [hsz] at hl; exact Or.inr hl)) (Below.refl _ _) (fun _ => rfl)
    (fun pre W => (∃ v, Boxed W H 27 v ∧ W.ownsRow (H + 3) 3 1 v pre.length (pre.map fun x => Value.int .i64 (x.2 : Int)) ∧ True) ∧ (Below w.heap.size w W ∧ H + 3 ≤ W.heap.size))
    (fun _ _ _ => False)
    (OwnFrom.and (Own.from (holdsRow_own (H + 3) H 27 3 1 (fun (pre : List (Nat × Nat)) => pre.length) (fun pre => pre.map fun x => Value.int .i64 (x.2 : Int)) (fun _ _ => True)) _) (OwnFrom.and (ownFrom_below (Nat.le_refl _) (by rw [hsz]; omega)) (fun _ _ _ _ hs hg _ => Nat.le_trans hs hg.size)))
    (fun _ _ _ _ _ hs _ _ => hs)
    ⟨⟨_, bO, World.ownsRow_nil _ _ _ _, trivial⟩, HB0.out, by rw [hsz]; exact Nat.le_refl _⟩
    (fun x => { tmps := #[.agg #[.int .i64 c.mn, .int .i64 c.no, .int .i64 c.mx, .int .u64 c.seed], .slice a l.length cap, .pointer (some ⟨w.heap.size, 0, none⟩), undef, .slice none 0 0, .int .i64 0, .int .i64 0, .pointer (some ⟨H, 0, none⟩), undef, .int .i64 x.2, .agg #[.int .i64 c.mn, .int .i64 c.no, .int .i64 c.mx, .int .u64 c.seed], .int .i64 0, .int .i64 0, .bool false, undef, .agg #[.int .i64 c.mn, .int .i64 c.no, .int .i64 c.mx, .int .u64 c.seed], .slice a l.length cap, .func (.func 29) #[] #[.pointer (some ⟨H + 1 + 1, 0, none⟩), .pointer (some ⟨H + 1, 0, none⟩)], .int .i64 x.1, .int .i64 x.2, undef, undef, undef, undef, undef], defers := [] }) ?assign ?body ?done ?stop
  case assign =>
    intro l x W K hK
    gi_wp2
    exact hK
  case body =>
    rintro l pre x W ⟨⟨v, hv, hrow, _⟩, hB, hszW⟩ hlt2
    have hll := HLL.out
    have hc := hv.cell
    have hpl : pre.length < 1099511627776 := by omega
    have HR := hidden hrow
    have HVV := hidden hv
    have HBB := hidden hB
    gi_wp2_with (gi_at_builtin; refine wpListIn_append_own _ rfl _ _ 27 rfl (H + 3) 3 i0 (.int .i64 0) 1 8 Tryd.underlying27 hi hz0 hz1 hz2 rfl (by decide) _ _ _ rfl (hrow.alloc _) ⟨W.heap.size, 0, none⟩ 1 1 [.int .i64 x.2] rfl rfl (cell_one_new _ _ _) (by simp [Value.oneCell']) (by unfold maxLen; omega) (by omega) (by simp; omega) ?_; intro v' w1' hown' hgrow _; obtain ⟨g', cap', rfl⟩ := ownsRow_succ hown'; obtain ⟨hv1, hv2, hr2, hk2, hb2⟩ := hv.appended (by decide) (own_weak hrow (show H ≤ H + 3 by omega)) (by omega) (Nat.le_refl _) (own_weak hown' (show H ≤ H + 3 by omega)) hgrow; have hc1 := hv1.cell; have hf1 := hv1.frozen)
    have hown2 : (w1'.setCell ⟨H, 0, none⟩ (.slice (some ⟨g', 0, none⟩) (pre.length + 1) cap')).ownsRow (H + 3) 3 1 (.slice (some ⟨g', 0, none⟩) (pre.length + 1) cap') (pre.length + 1) ((pre.map fun x => Value.int .i64 (x.2 : Int)) ++ [.int .i64 (x.2 : Int)]) :=
      own_kept hown' ((Kept.refl (only H) w1').setCell (p := ⟨H, 0, none⟩) rfl _) (fun k hk hs => by have := own_ge hown' k hk; have : k = H := hs; omega)
    have hKS : Kept (fun k => k = H ∨ H + 3 ≤ k) W (w1'.setCell ⟨H, 0, none⟩ (.slice (some ⟨g', 0, none⟩) (pre.length + 1) cap')) :=
      (((Kept.refl (fun k => k = H ∨ H + 3 ≤ k) W).alloc _).grown hgrow (fun k e _ => Or.inr (own_ge hrow k e))).setCell (p := ⟨H, 0, none⟩) (Or.inl rfl) _
    exact ⟨hk2.from _, hKS, ⟨_, hv2, by simpa using hown2, trivial⟩, hB.trans (hKS.below hB.size fun k hk => by omega), Nat.le_trans hszW hKS.size⟩
  case done =>
    rintro D ys W hD rfl ⟨⟨v, hv, hrow, _⟩, hB, hszW⟩ hK
    have hc := hv.cell
    gi_wp2
    refine ⟨by simp, .inl ⟨_, _, rfl, run_takeDeferred hK, ?_⟩⟩
    refine ⟨_, by simp [results, Tryd.results7, go_sem], v, rfl, ?_, ?_⟩
    · have h9 := ownsRow_putObj hrow (.deferred none) hK rfl
      rw [places_len, map_places] at h9
      exact own_weak h9 (by omega)
    · exact same_of_below (hB.trans (belowK_b (w := w) (Nat.le_refl _) W D _ _ (by omega) hK rfl rfl))
  case stop =>
    rintro D c pre W _ _ h _
    exact h.elim
set_option maxHeartbeats 1000000 in
set_option maxRecDepth 100000 in
theorem lengths_no {mn no mx : Int} (hn : ¬ CutOk mn no mx) (seed : Nat) (v : Value) (w : World) :
    Calls Tryd.prog 7 #[.agg #[.int .i64 mn, .int .i64 no, .int .i64 mx, .int .u64 seed], v] w fun e w' => e = .returned (.tuple #[.slice none 0 0, .int .i64 50]) ∧ Same w w' := by
  have HK := hidden (fun w => check_no hn seed w)
  clear hn
  go_enter Tryd.func7, Tryd.ntmps7
  go_wp2_with (go_at_call 20; refine (HK.out _).mono ?_; rintro e w1 ⟨rfl, k1⟩)
  go_returns
  exact ⟨rfl, Kept.trans (same_alloc _ _) k1⟩
end Go.Proofs.YtdmekpokgnieeaaDoor
