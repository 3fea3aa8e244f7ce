/- Tables: New, made, IndexFunc, Get, Count. -/
import Derived.Test.YtiffkcffcjembaaH0
namespace Go.Proofs.Ytiffkcffcjembaa
open Go.RowKit Go.Maps
set_option linter.unusedVariables false

def Same (w w' : World) : Prop := Kept (fun _ => False) w w'
theorem same_alloc (w : World) (o : Obj) : Same w (w.alloc o) := (Kept.refl _ w).alloc o
/-- A Table of all zero. -/
def ZT : Array Value := (sC f0 64 ++ [Value.map none]).toArray
theorem ZT_size : ZT.size = 193 := by kernel_rfl
theorem ZT_set (bm : Nat) : ZT.setIfInBounds 192 (.map (some bm)) = TC f0 bm := by kernel_rfl
theorem zeroT (w : World) : (zeroValue 48).run Try.prog w = .ok (.agg ZT) w := by kernel_rfl
theorem neq_nn (w : World) : (binOp BinOp.neq 46 (.map none) (.map none)).run Try.prog w = .ok (.bool false) w := by kernel_rfl
theorem neq_sn (b : Nat) (w : World) : (binOp BinOp.neq 46 (.map (some b)) (.map none)).run Try.prog w = .ok (.bool true) w := by kernel_rfl
set_option maxHeartbeats 1000000 in
set_option maxRecDepth 100000 in
theorem h_new (w : World) : Calls Try.prog 7 #[] w fun e w' => ∃ g bm, e = .returned (.pointer (some ⟨g, 0, none⟩)) ∧ w.heap.size ≤ g ∧ w.heap.size ≤ bm ∧ Same w w' ∧ TB w' g bm f0 0 := by
  have hmm := @run_makeMap Try.prog
  have hz := zeroT
  have hs := ZT_size
  go_enter Try.func7, Try.ntmps7
  go_wp2
  rw [ZT_set]
  go_ret
  refine ⟨w.heap.size + 1, w.heap.size, rfl, by omega, Nat.le_refl _, (same_alloc _ _).alloc _, ?_, ⟨.map [], ?_, Cnt.zero⟩, Goo.zero⟩
  · have := blk_new (w.alloc (.map #[] 0)) (.cells (TC f0 w.heap.size) 48)
    rwa [show (w.alloc (.map #[] 0)).heap.size = w.heap.size + 1 by simp] at this
  · exact (World.ownsMap_made w _ _ _).alloc _
set_option maxHeartbeats 1000000 in
theorem h_made_nil (w : World) : Calls Try.prog 26 #[.pointer none] w fun e w' => e = .returned (.bool false) ∧ w' = w := by
  go_enter Try.func26, Try.ntmps26
  go_wp2
  go_ret
  exact ⟨rfl, rfl⟩
theorem h_made_zero (g : Nat) (w : World) (c : w.cell? ⟨g, 192, none⟩ = some (.map none)) : Calls Try.prog 26 #[.pointer (some ⟨g, 0, none⟩)] w fun e w' => e = .returned (.bool false) ∧ w' = w := by
  have hn := neq_nn
  go_enter Try.func26, Try.ntmps26
  go_wp2
  go_ret
  exact ⟨rfl, rfl⟩
theorem h_made (g bm : Nat) (w : World) (c : w.cell? ⟨g, 192, none⟩ = some (.map (some bm))) : Calls Try.prog 26 #[.pointer (some ⟨g, 0, none⟩)] w fun e w' => e = .returned (.bool true) ∧ w' = w := by
  have hn := neq_sn
  go_enter Try.func26, Try.ntmps26
  go_wp2
  go_ret
  exact ⟨rfl, rfl⟩
theorem h_free (a b c : Int) (w : World) : Calls Try.prog 29 #[.agg #[.int .i64 a, .int .i64 b, .int .i64 c]] w fun e w' => e = .returned (.bool (decide (b = 0))) ∧ Same w w' := by
  go_enter Try.func29, Try.ntmps29
  go_wp2
  go_ret
  exact ⟨rfl, same_alloc _ _⟩
/-- The cells of place k. -/
theorem TB.cells {w : World} {g bm n : Nat} {f : FT} (h : TB w g bm f n) {i : Nat} (hi : i < 64) : w.cell? ⟨g, i * 3, none⟩ = some (.int .i64 (if (f i).1 = 0 then 0 else (i : Int))) ∧ w.cell? ⟨g, i * 3 + 1, none⟩ = some (.int .i64 (f i).1) ∧ w.cell? ⟨g, i * 3 + 2, none⟩ = some (.int .i64 (f i).2) := by
  have hb := h.blk
  exact ⟨(blk_cell hb).trans (TC_at f bm i 0 hi (by decide)), (blk_cell hb).trans (TC_at f bm i 1 hi (by decide)), (blk_cell hb).trans (TC_at f bm i 2 hi (by decide))⟩
theorem map_kept {w w' : World} {S : Nat → Prop} {P : Program} {k : TypeId} {R : Value → Option (DataW Unit × List MemPlace)} {b n : Nat} {D : DataW Unit} (h : w.ownsMap P k R b n D) (hk : Kept S w w') (hs : ¬ S b) : w'.ownsMap P k R b n D := by
  obtain ⟨es, clock, hb, r⟩ := h
  exact ⟨es, clock, blk_kept hk hs hb, r⟩
theorem TB.same {w w' : World} {g bm n : Nat} {f : FT} (h : TB w g bm f n) (hk : Same w w') : TB w' g bm f n := by
  obtain ⟨D, ho, hc⟩ := h.ex
  exact ⟨blk_kept hk (fun h => h) h.blk, ⟨D, map_kept ho hk (fun h => h), hc⟩, h.goo⟩
theorem TB.kept {w w' : World} {S : Nat → Prop} {g bm n : Nat} {f : FT} (h : TB w g bm f n) (hk : Kept S w w') (h1 : ¬ S g) (h2 : ¬ S bm) : TB w' g bm f n := by
  obtain ⟨D, ho, hc⟩ := h.ex
  exact ⟨blk_kept hk h1 h.blk, ⟨D, map_kept ho hk h2, hc⟩, h.goo⟩
theorem ret_int {k : IntKind} {a b : Int} (h : a = b) : Ending.returned (.int k a) = .returned (.int k b) := by rw [h]
set_option maxHeartbeats 1000000 in
set_option maxRecDepth 100000 in
/-- The first place that is free. -/
theorem h_index (g bm : Nat) (f : FT) (n : Nat) (m : Nat) (r : Int) (w : World) (h : TB w g bm f n) (hm : m ≤ 64) (hno : ∀ i, i < m → (f i).1 ≠ 0) (hat : m < 64 → (f m).1 = 0) (hr1 : Hid (m < 64 → r = m)) (hr2 : Hid (m = 64 → r = -1)) :
    Calls Try.prog 28 #[.slice (some ⟨g, 0, none⟩) 64 64, .func (.func 29) #[] #[]] w fun e w' => e = .returned (.int .i64 r) ∧ Same w w' := by
  have hfr := hidden h_free
  go_enter Try.func28, Try.ntmps28
  go_wp2
  go_loopw [8] (fun i wr => ∃ k : Nat, k ≤ m ∧ i = .int .i64 k ∧ Same w wr) (fun i _ => 64 - (intOf i).toNat)
  case atStart => exact ⟨0, Nat.zero_le _, rfl, Kept.refl _ _⟩
  case round =>
    obtain ⟨k, hk, rfl, hs⟩ := hrel
    have hT := h.same hs
    by_cases hlt : k < 64
    · obtain ⟨c0, c1, c2⟩ := hT.cells hlt
      have S1 := hidden hs
      have HT := hidden hT
      clear hs hT
      by_cases hkm : k = m
      · have e0 : (f k).1 = 0 := by subst hkm; exact hat hlt
        rw [e0] at c1 c0
        rw [if_pos rfl] at c0
        have HR : Hid ((k : Int) = r) := hidden (by rw [hr1.out (by omega), hkm])
        clear hat hno hkm hk e0
        go_wp2_with (first
          | (go_at_call 29; refine (hfr.out _ _ _ _).mono ?_; rintro e w1 ⟨rfl, k1⟩))
        go_ret
        exact ⟨ret_int HR.out, S1.out.trans k1⟩
      · have e0 : (f k).1 ≠ 0 := hno k (by omega)
        rw [if_neg e0] at c0
        clear hat hno
        go_wp2_with (first
          | (go_at_call 29; refine (hfr.out _ _ _ _).mono ?_; rintro e w1 ⟨rfl, k1⟩))
        go_roundw
        case rel => exact ⟨k + 1, by omega, by go_num, S1.out.trans k1⟩
        case measure => simp [intOf]; omega
    · have hm4 : m = 64 := by omega
      clear hat hno
      go_wp2
      go_ret
      exact ⟨ret_int (hr2.out hm4).symm, hs⟩
theorem TB.cell_map {w : World} {g bm n : Nat} {f : FT} (h : TB w g bm f n) : ∃ D, w.cell? ⟨g, 192, none⟩ = some (.map (some bm)) ∧ w.heap[g]? = some (.cells (TC f bm) 48 (0, 0)) ∧ w.ownsMap Try.prog 3 (plainElem Try.prog 3) bm n D ∧ Cnt D f := by
  obtain ⟨D, ho, hc⟩ := h.ex
  exact ⟨D, (blk_cell h.blk).trans (TC_map f bm), h.blk, ho, hc⟩
theorem Cnt.is {D : DataW Unit} {f : FT} (h : Cnt D f) {x c : Int} (hat : D.atKey (.int .i64 x) (.lit (.int .i64 0)) = .lit (.int .i64 c)) : c = (cn f x 64 : Nat) := by
  rw [h.at_] at hat
  injection hat with h1
  injection h1 with _ h2
  exact h2.symm
def I64 (x : Int) : Prop := -9223372036854775808 ≤ x ∧ x ≤ 9223372036854775807
theorem I64.wf {x : Int} (h : I64 x) : (Lit.int .i64 x).wf = true := by
  have := h.1
  have := h.2
  exact WalkArith.wf_i64 ⟨by omega, by omega⟩
set_option maxHeartbeats 1000000 in
set_option maxRecDepth 100000 in
theorem h_count (g bm : Nat) (f : FT) (n : Nat) (x : Int) (w : World) (h : TB w g bm f n) (hx : I64 x) :
    Calls Try.prog 13 #[.pointer (some ⟨g, 0, none⟩), .int .i64 x] w fun e w' => e = .returned (.int .i64 (cn f x 64 : Nat)) ∧ w' = w := by
  obtain ⟨D, cm, hb, ho, hc⟩ := h.cell_map
  have hkey := keyOf_int_mk Try.underlying3 hx.wf
  have hmd := hidden (fun w c => h_made g bm w c)
  go_enter Try.func13, Try.ntmps13
  go_wp2_with (first
    | (go_at_call 26; refine (hmd.out _ cm).mono ?_; rintro e w1 ⟨rfl, rfl⟩)
    | (at_lookup; refine wpList_lookup_own_int _ rfl _ _ 46 rfl 3 3 .i64 law3 Try.underlying46 Try.underlying3 (zero3 _) bm n D rfl ho _ _ rfl hkey ?_; intro c hat hwc)
    | go_in)
  go_ret
  exact ⟨ret_int (hc.is hat), rfl⟩
end Go.Proofs.Ytiffkcffcjembaa
