/- SeqNobody, walked. -/
import Derived.Test.YtelngbkbdihdnaaM9
import Derived.Test.YtelngbkbdihdnaaPTab
namespace Go.Proofs.Ytelngbkbdihdnaa
open Go.RowKit Go.Shelf
set_option linter.unusedVariables false
attribute [local go_sem] Oper.semAt_some
theorem kept_putObj {S : Nat → Prop} (W : World) (l : Nat) (o : Obj) (hl : S l) : Kept S W (W.putObj l o) :=
  (Kept.refl S W).grown (grownBy_putObj' W l o) (fun k e _ => by cases e; exact hl)
theorem same_of_below {w W : World} (h : Below w.heap.size w W) : Same w W := ⟨h.os, h.tape, h.output, h.size, fun k hk _ => h.block k hk⟩
theorem blk_off {w : World} {g b j : Nat} {o : Obj} {v : Value} (h : w.heap[g]? = some o) (hne : b ≠ g) : (w.setCell ⟨b, j, none⟩ v).heap[g]? = some o :=
  blk_kept ((Kept.refl (fun k => k = b) w).setCell (p := ⟨b, j, none⟩) rfl v) (Ne.symm hne) h
/-- What is read behind the loops: the key, the result's cell, the item. -/
structure NB (w : World) (R F : Nat) (k : ByteArray) (W : World) : Prop where
  key : W.cell? ⟨w.heap.size, 1, none⟩ = some (.string k)
  res : W.cell? ⟨R, 0, none⟩ = some (.bool false)
  free : W.frozen? ⟨R, 0, none⟩ = false
  item : W.cell? ⟨F, 0, none⟩ = some (.string ByteArray.empty)
theorem NB.own (w : World) (R F : Nat) (k : ByteArray) : Own (fun (_ : List Kv) W => NB w R F k W) := fun s A B row hs hg hr => ⟨cell_kept hs.key hg hr, cell_kept hs.res hg hr, (frozen_kept hs.res hg hr).trans hs.free, cell_kept hs.item hg hr⟩
set_option maxRecDepth 100000 in
set_option maxHeartbeats 4000000 in
theorem nobody_walk (oK : Int) (oKey oTo : ByteArray) (oN : Int) (w : World) :
    Calls Try.prog 10 #[.agg #[.int .i64 oK, .string oKey, .string oTo, .int .i64 oN]] w fun e w' => e = .returned (.bool true) ∧ Same w w' := by
  have C1 := hidden (fun x w => (callsIn_wide (n := 5)).2 (pushNil x w))
  have C2 := hidden (fun w => (callsIn_wide (n := 5)).2 (popNil w))
  have C3 := hidden (fun w => (callsIn_wide (n := 5)).2 (leastNil w))
  have C4 := hidden (fun w => (callsIn_wide (n := 5)).2 (awake_any w))
  have C5 := hidden (fun w => (callsIn_wide (n := 5)).2 (lenNilI w))
  have C6 := hidden (fun w => (callsIn_wide (n := 5)).2 (lenNil w))
  have C7 := hidden (fun k w => (callsIn_wide (n := 5)).2 (rankNil k w))
  have C8 := hidden (fun w => (callsIn_wide (n := 5)).2 (forkNil w))
  have C9 := hidden (fun k x w => (callsIn_wide (n := 5)).2 (putNil k x w))
  have C10 := hidden (fun k w => (callsIn_wide (n := 5)).2 (getNil k w))
  have C11 := hidden (fun k w => (callsIn_wide (n := 5)).2 (deleteNil k w))
  have C12 := hidden (fun w => (callsIn_wide (n := 5)).2 (atNil w))
  have C13 := hidden (fun m w => (callsIn_wide (n := 5)).2 (all_fn m w))
  have C14 := hidden (fun m a b w => (callsIn_wide (n := 5)).2 (range_fn m a b w))
  have HBX : Hid (∀ W cs t, Same (w.alloc (.cells cs t)) W → W.heap[w.heap.size]? = some (.cells cs t (0, 0))) := fun W cs t k => blk_kept k (fun h => h) (heap_alloc_new w _)
  refine (callsIn_wide (n := 6)).1 ?_
  refine callsIn_of_wp_marks Try.func10 rfl trivial ?_ rfl
  simp only [Try.ntmps10, List.size_toArray, List.length_cons, List.length_nil, Nat.reduceAdd, Nat.reduceSub, Array.replicate_succ, Array.replicate_zero, List.push_toArray, List.append_toArray, List.nil_append, List.cons_append]
  gi_wp2_with (first
    | (refine ⟨trivial, ?_⟩; gi_at_call 16; refine (C1.out _ _).mono ?_; rintro e w1 ⟨rfl, rfl⟩)
    | (refine ⟨trivial, ?_⟩; gi_at_call 13; refine (C2.out _).mono ?_; rintro e w1 ⟨rfl, rfl⟩)
    | (refine ⟨trivial, ?_⟩; gi_at_call 14; refine (C3.out _).mono ?_; rintro e w1 ⟨rfl, rfl⟩)
    | (refine ⟨trivial, ?_⟩; gi_at_call 12; refine (C4.out _).mono ?_; rintro e w1 ⟨rfl, k1⟩; have b1 := HBX.out w1 _ _ (Kept.trans (same_alloc _ _) k1); have x1 : w1.cell? ⟨w.heap.size, 1, none⟩ = some (.string oKey) := blk_cell b1; have x3 : w1.cell? ⟨w.heap.size, 3, none⟩ = some (.int .i64 oN) := blk_cell b1; have b2 := blk_kept k1 (fun h => h) (heap_alloc_new _ _); have K1 := hidden (Kept.trans (same_alloc w _) (Kept.trans (same_alloc _ _) k1)); have B1 := hidden b1; have B2 := hidden b2; clear b1 b2 k1)
    | (refine ⟨trivial, ?_⟩; gi_at_call 15; refine (C5.out _).mono ?_; rintro e w2 ⟨rfl, rfl⟩)
    | (refine ⟨trivial, ?_⟩; gi_at_call 27; refine (C6.out _).mono ?_; rintro e w2 ⟨rfl, rfl⟩)
    | (refine ⟨trivial, ?_⟩; gi_at_call 31; refine (C7.out _ _).mono ?_; rintro e w2 ⟨rfl, rfl⟩)
    | (refine ⟨trivial, ?_⟩; gi_at_call 23; refine (C8.out _).mono ?_; rintro e w2 ⟨rfl, rfl⟩)
    | (refine ⟨trivial, ?_⟩; gi_at_call 24; refine (C9.out _ _ _).mono ?_; rintro e w2 ⟨rfl, rfl⟩)
    | (refine ⟨trivial, ?_⟩; gi_at_call 30; refine (C10.out _ _).mono ?_; rintro e w2 ⟨rfl, rfl⟩)
    | (refine ⟨trivial, ?_⟩; gi_at_call 25; refine (C11.out _ _).mono ?_; rintro e w2 ⟨rfl, rfl⟩)
    | (refine ⟨trivial, ?_⟩; gi_at_call 29; refine (C12.out _).mono ?_; rintro e w2 ⟨rfl, k2⟩; have K2 := hidden (Kept.trans K1.out k2); have B1' := hidden (blk_kept k2 (fun h => h) B1.out); have B2' := hidden (blk_kept k2 (fun h => h) B2.out); clear k2)
    | (refine ⟨trivial, ?_⟩; gi_at_call 28; refine (C13.out _ _).mono ?_; rintro e w3 ⟨rfl, rfl⟩))
  obtain ⟨WB, hWB⟩ : ∃ W, W = (w2.alloc (.cells #[.string ByteArray.empty, .int .i64 0] 54)).alloc (.cells #[.pointer none] 40) := ⟨_, rfl⟩
  rw [← hWB]
  have kWB : Same w2 WB := by rw [hWB]; exact Kept.trans (same_alloc _ _) (same_alloc _ _)
  have bA : WB.heap[w2.heap.size + 1]? = some (.cells #[.pointer none] 40 (0, 0)) := by
    rw [hWB]
    have z := heap_alloc_new (w2.alloc (.cells #[.string ByteArray.empty, .int .i64 0] 54)) (.cells #[.pointer none] 40)
    rw [World.size_alloc] at z
    exact z
  have bF : WB.heap[w2.heap.size]? = some (.cells #[.string ByteArray.empty, .int .i64 0] 54 (0, 0)) := by rw [hWB]; exact blk_alloc (heap_alloc_new w2 _) _
  have bR := blk_kept kWB (fun h => h) B2'.out
  have bK := blk_kept kWB (fun h => h) B1'.out
  have nb : NB w (w.heap.size + 1) w2.heap.size oKey WB := ⟨blk_cell bK, by have := bR; simp only [World.size_alloc] at this; exact blk_cell this, by have := bR; simp only [World.size_alloc] at this; exact blk_free this, blk_cell bF⟩
  have hB0 : Below w.heap.size w WB := (Kept.trans K2.out kWB).below (Nat.le_refl _) (fun _ h => h.elim)
  have NB0 := hidden nb
  have HB0 := hidden hB0
  have hsz2 : w.heap.size + 1 < WB.heap.size := by have := blk_lt bR; simp at this; omega
  have hrun := allNil_stops 5 (w2.heap.size + 1) (by decide) (fun k => WB.heap.size ≤ k) WB (blk_cell bA)
  clear hWB kWB bA bF bR bK nb hB0 x1 x3
  refine wpIn_rangeFunc_ownG rfl (by decide) (gf := 57) (lb := #[.pointer (some ⟨w2.heap.size + 1, 0, none⟩)]) rfl trivial (enters_of Try.func57 (by kernel_rfl) rfl)
    hrun (fun h k => h.trans k) (fun W l o o' hl _ _ _ => kept_putObj W l o' hl) (Below.refl _ _) (fun _ => rfl)
    (fun pre W => NB w (w.heap.size + 1) w2.heap.size oKey W ∧ (Below w.heap.size w W ∧ WB.heap.size ≤ W.heap.size)) (fun _ _ _ => False)
    (OwnFrom.and (Own.from (NB.own w (w.heap.size + 1) w2.heap.size oKey) _) (OwnFrom.and (ownFrom_below (Nat.le_refl _) (by omega)) (fun _ _ _ _ hs hg _ => Nat.le_trans hs hg.size)))
    (fun _ _ _ _ _ hs _ _ => hs) ⟨NB0.out, HB0.out, Nat.le_refl _⟩ (fun x => { tmps := _, defers := [] }) (fun l x W K hK => wpIn_skip hK) ?body ?done ?stop
  case body =>
    rintro l pre x W _ hlt
    omega
  case stop =>
    rintro D c pre W _ _ h _
    exact h.elim
  case done =>
    rintro D ys W hD rfl ⟨hn, hB, hS⟩ hK
    have y1 := hn.key
    have HN1 := hidden hn
    have HBW := hidden hB
    have HKD := hidden hK
    gi_wp2_with (refine ⟨trivial, ?_⟩; gi_at_call 41; refine (C14.out _ _ _ _).mono ?_; rintro e w3 ⟨rfl, rfl⟩)
    obtain ⟨WC, hWC⟩ : ∃ X, X = ((W.alloc (.cells #[.pointer none] 40)).alloc (.cells #[.string { data := #[] }] 9)).alloc (.cells #[.string oKey] 9) := ⟨_, rfl⟩
    rw [← hWC]
    have kWC : Same W WC := by rw [hWC]; exact Kept.trans (same_alloc _ _) (Kept.trans (same_alloc _ _) (same_alloc _ _))
    have hszc : WC.heap.size = W.heap.size + 3 := by rw [hWC]; simp
    have bA : WC.cell? ⟨W.heap.size, 0, none⟩ = some (.pointer none) := by rw [hWC]; exact blk_cell (blk_alloc (blk_alloc (heap_alloc_new W _) _) _)
    have bB : WC.cell? ⟨W.heap.size + 1, 0, none⟩ = some (.string { data := #[] }) := by
      rw [hWC]
      have z := heap_alloc_new (W.alloc (.cells #[.pointer none] 40)) (.cells #[.string { data := #[] }] 9)
      rw [World.size_alloc] at z
      exact blk_cell (blk_alloc z _)
    have bC : WC.cell? ⟨W.heap.size + 2, 0, none⟩ = some (.string oKey) := by
      rw [hWC]
      have z := heap_alloc_new ((W.alloc (.cells #[.pointer none] 40)).alloc (.cells #[.string { data := #[] }] 9)) (.cells #[.string oKey] 9)
      rw [World.size_alloc, World.size_alloc] at z
      exact blk_cell z
    have nb2 : NB w (w.heap.size + 1) w2.heap.size oKey WC := (NB.own w (w.heap.size + 1) w2.heap.size oKey) [] W WC none HN1.out (grownBy_same kWC) (fun r e => by cases e)
    have hBC : Below w.heap.size w WC := HBW.out.trans (kWC.below HBW.out.size (fun _ h => h.elim))
    have hDW : D < W.heap.size := blk_lt HKD.out
    have hKC : WC.heap[D]? = some (.deferred (some [])) := blk_kept kWC (fun h => h) HKD.out
    have hrun2 := rangeNil_stops 5 W.heap.size (W.heap.size + 1) (W.heap.size + 2) { data := #[] } oKey (by decide) (fun k => WC.heap.size ≤ k) WC bA bB bC
    have NB2 := hidden nb2
    have HB2 := hidden hBC
    have HKC := hidden hKC
    clear hWC kWC bA bB bC nb2 hBC hKC y1 hn hB hK
    refine wpIn_rangeFunc_ownG rfl (by decide) (gf := 73) (lb := #[.pointer (some ⟨W.heap.size, 0, none⟩), .pointer (some ⟨W.heap.size + 1, 0, none⟩), .pointer (some ⟨W.heap.size + 2, 0, none⟩)]) rfl trivial (enters_of Try.func73 (by kernel_rfl) rfl)
      hrun2 (fun h k => h.trans k) (fun W l o o' hl _ _ _ => kept_putObj W l o' hl) (Below.refl _ _) (fun _ => rfl)
      (fun pre X => NB w (w.heap.size + 1) w2.heap.size oKey X ∧ (Below w.heap.size w X ∧ (WC.heap.size ≤ X.heap.size ∧ X.heap[D]? = some (.deferred (some []))))) (fun _ _ _ => False)
      (OwnFrom.and (Own.from (NB.own w (w.heap.size + 1) w2.heap.size oKey) _) (OwnFrom.and (ownFrom_below (Nat.le_refl _) (by omega)) (OwnFrom.and (fun _ _ _ _ hs hg _ => Nat.le_trans hs hg.size) (fun _ X Y row hs hg hr => (hg.block D (blk_lt hs) (fun e => by have := (hr D e.symm).1; omega)).trans hs))))
      (fun _ _ _ _ _ hs _ _ => hs) ⟨NB2.out, HB2.out, Nat.le_refl _, HKC.out⟩ (fun x => { tmps := _, defers := _ }) (fun l x W K hK => wpIn_skip hK) ?body ?done ?stop
    case body =>
      rintro l pre x W _ hlt
      omega
    case stop =>
      rintro E c pre W _ _ h _
      exact h.elim
    case done =>
      rintro E ys X hE rfl ⟨hn, hB, hS2, hKD⟩ hKE
      have z1 := hn.res
      have z2 := hn.free
      have z3 := hn.item
      have HX := hidden hB
      gi_wp2
      have hDE : D ≠ E := by omega
      have e1 : (X.setCell ⟨w.heap.size + 1, 0, none⟩ (.bool true)).heap[E]? = some (.deferred (some [])) := blk_off hKE (by omega)
      have e2 : (X.setCell ⟨w.heap.size + 1, 0, none⟩ (.bool true)).heap[D]? = some (.deferred (some [])) := blk_off hKD (by omega)
      obtain ⟨Y, hY⟩ : ∃ Y, Y = (X.setCell ⟨w.heap.size + 1, 0, none⟩ (.bool true)).putObj E (.deferred none) := ⟨_, rfl⟩
      have k3 : Kept (fun k => k = w.heap.size + 1 ∨ k = E) X Y := by rw [hY]; exact ((Kept.refl (fun k => k = w.heap.size + 1 ∨ k = E) X).setCell (p := ⟨w.heap.size + 1, 0, none⟩) (Or.inl rfl) _).trans (kept_putObj _ E _ (Or.inr rfl))
      have e3 : Y.heap[D]? = some (.deferred (some [])) := by rw [hY]; exact blk_kept (kept_putObj (S := fun k => k = E) _ E _ rfl) hDE e2
      have c3 : Y.cell? ⟨w.heap.size + 1, 0, none⟩ = some (.bool true) := by rw [hY]; exact Kept.cell (kept_putObj (S := fun k => k = E) _ E _ rfl) (by simp; omega) (World.cell?_setCell_same' X _ _ (by rw [z1]; rfl))
      have c4 : (Y.putObj D (.deferred none)).cell? ⟨w.heap.size + 1, 0, none⟩ = some (.bool true) := Kept.cell (kept_putObj (S := fun k => k = D) _ D _ rfl) (by simp; omega) c3
      refine ⟨by simp, .inl ⟨_, _, rfl, run_takeDeferred e1, ?_⟩⟩
      rw [← hY]
      refine ⟨by simp, .inl ⟨_, _, rfl, run_takeDeferred e3, ?_⟩⟩
      refine ⟨_, by simp [results, Try.results10, go_sem, c4], rfl, ?_⟩
      have k5 : Kept (fun k => w.heap.size ≤ k) X (Y.putObj D (.deferred none)) := (k3.mono (fun k _ h => by omega)).trans (kept_putObj Y D _ (by omega))
      exact Kept.trans' (same_of_below HX.out) k5 (fun k hk h => by omega)
theorem nobody_walk2 (oK : Int) (oKey oTo : ByteArray) (oN : Int) (w : World) (_ : -9223372036854775808 ≤ oK) (_ : oK ≤ 9223372036854775807) (_ : oKey.size ≤ 140737488351232) (_ : oTo.size ≤ 140737488351232) (_ : -9223372036854775808 ≤ oN) (_ : oN ≤ 9223372036854775807) :
    Calls Try.prog 10 #[.agg #[.int .i64 oK, .string oKey, .string oTo, .int .i64 oN]] w fun e w' => e = .returned (.bool true) ∧ Same w w' := nobody_walk oK oKey oTo oN w
end Go.Proofs.Ytelngbkbdihdnaa
