/- The law's own 'lives', walked: true, whatever the world that holds the table. -/
import Derived.Test.YtdmekpokgnieeaaDoorCut9
import Derived.Laws.OwnMore
import Derived.Lib.BufferWrite
namespace Go.Proofs.YtdmekpokgnieeaaDoor
open Go.RowKit Go.Shelf
set_option linter.unusedVariables false
attribute [local go_sem ↓] Go.wp_at_zero Go.wp_at_succ

/-- make([]byte, n). -/
theorem make_bytes (n : Nat) (hn : n ≤ 281474976710656) (W : World) :
    (Instr.makeSlice 25 (.int .i64 (n : Int)) (.int .i64 (n : Int))).run Tryd.prog W = .ok (.slice (some ⟨W.heap.size, 0, none⟩) n n) (W.alloc (.cells (List.replicate n (U8 0)).toArray 5)) := by
  obtain ⟨i0, hi, hz0, hz1, hz2⟩ := info_parts infoByte
  have h := run_make (P := Tryd.prog) W 25 5 i0 (.int .u8 0) Tryd.underlying25 hi hz0 .i64 .i64 (n : Int) (n : Int) (by omega) (by omega) (by rw [hz2]; omega) (by omega)
  have hM : madeCells (Value.int .u8 0).cells (n * i0.size) = (List.replicate n (U8 0)).toArray := by
    rw [hz1, Nat.mul_one]
    apply Array.ext'
    rw [List.toList_toArray]
    exact toList_madeCells_one _ _
  rw [Int.toNat_natCast, hM] at h
  exact h
set_option maxRecDepth 100000 in
theorem nil_func (W : World) : (binOp .eql 33 (.func (.func 23) #[] #[]) .nilFunc).run Tryd.prog W = .ok (.bool false) W := by kernel_rfl
/-- A constant text's bytes are marked. -/
theorem conv_const (w : World) (C : Array Value) (n m : Nat) : (convert 25 25 (.slice (some ⟨w.heap.size, 0, none⟩) n m)).run Tryd.prog (w.alloc (.cells C 5)) = .ok (.slice (some ⟨w.heap.size, 0, none⟩) n m) (w.alloc (.cells C 5 (C.size, C.size + 1))) := by
  have hsh : (w.alloc (.cells C 5)).shape? w.heap.size = some (5, C.size) := by
    have : (w.alloc (.cells C 5)).heap[w.heap.size]? = some (.cells C 5) := by
      show (w.heap.push (.cells C 5))[w.heap.size]? = _
      simp
    unfold World.shape?
    rw [this]
  have hfr : (w.alloc (.cells C 5)).freeze ⟨w.heap.size, C.size, none⟩ 1 = w.alloc (.cells C 5 (C.size, C.size + 1)) := by
    have hm : ∀ (a : Array Obj) (x : Obj) (f : Obj → Obj), (a.push x).modify a.size f = a.push (f x) := by
      intro a x f
      apply Array.ext
      · simp
      · intro i h1 h2
        simp only [Array.getElem_modify, Array.getElem_push]
        by_cases h : a.size = i
        · subst h
          simp
        · have hi : i < a.size := by simp at h1; omega
          simp [h, hi]
    unfold World.freeze
    rw [if_neg (by decide)]
    show ({ w.alloc (.cells C 5) with heap := (w.heap.push (.cells C 5)).modify w.heap.size _ } : World) = _
    rw [hm]
    rfl
  simp [convert, run_underlying Tryd.underlying25, run_underlying Tryd.underlying5, markStringish, hsh, hfr]
theorem byt_mark (w : World) (l : List UInt8) (f : Nat × Nat) : Byt (w.alloc (.cells (l.map U8).toArray 5 f)) (.slice (some ⟨w.heap.size, 0, none⟩) l.length l.length) l := by
  refine Byt.mk _ _ w.heap.size 0 l.length rfl (Nat.le_refl _) (fun j x hj => ?_)
  rw [Nat.zero_add, cell_of_row _ _ _ _ _ _ (blk_new w _)]
  simp [hj]
theorem byt_new (w : World) (l : List UInt8) : Byt (w.alloc (.cells (l.map U8).toArray 5)) (.slice (some ⟨w.heap.size, 0, none⟩) l.length l.length) l := by
  refine Byt.mk _ _ w.heap.size 0 l.length rfl (Nat.le_refl _) (fun j x hj => ?_)
  rw [Nat.zero_add, blk_cell (blk_new w _)]
  simp [hj]
theorem lives_next {w : World} {g : Nat} (hT : Tab w) (hb : Byt w (.slice (some ⟨g, 0, none⟩) 3 3) [97, 98, 99]) : Calls Tryd.prog 19 #[.agg #[.int .i64 4, .int .i64 16, .int .i64 16, .int .u64 0], .slice (some ⟨g, 0, none⟩) 3 3] w fun e w' => e = .returned (.tuple #[.int .i64 3, .int .i64 0]) ∧ Same w w' := by
  have h := next_yes shpA shpA_ok hT hb (by decide)
  rw [cutA] at h
  exact h
theorem lives_lens {w : World} (hT : Tab w) {g : Nat} (hb : Byt w (.slice (some ⟨g, 0, none⟩) 40 40) (List.replicate 40 0)) : Calls Tryd.prog 7 #[.agg #[.int .i64 16, .int .i64 16, .int .i64 16, .int .u64 0], .slice (some ⟨g, 0, none⟩) 40 40] w fun e w' => ∃ u, e = .returned (.tuple #[u, .int .i64 0]) ∧ Cells w' u [16, 16, 8] ∧ Same w w' := by
  have h := lengths_yes shpB shpB_ok hT hb (by decide)
  rw [lensB] at h
  refine Calls.mono h ?_
  rintro e w' ⟨u, rfl, hi, hs⟩
  exact ⟨u, rfl, hi.cells, hs⟩
theorem cells_three (w : World) (a b c : Nat) : Cells (w.alloc (.cells #[.int .i64 a, .int .i64 b, .int .i64 c] 3)) (.slice (some ⟨w.heap.size, 0, none⟩) 3 3) [a, b, c] := by
  refine ⟨_, 3, rfl, fun _ => ⟨w.heap.size, 0, rfl, fun j hj => ?_⟩⟩
  rw [Nat.zero_add, blk_cell (blk_new w _)]
  have hj' : j = 0 ∨ j = 1 ∨ j = 2 := by simp at hj; omega
  rcases hj' with rfl | rfl | rfl <;> rfl
set_option maxHeartbeats 2000000 in
set_option maxRecDepth 100000 in
theorem lives_any (w : World) (hT : Tab w) : Calls Tryd.prog 6 #[] w fun e w' => e = .returned (.bool true) ∧ Same w w' := by
  have HT := hidden hT
  have hmk : ∀ W : World, (Instr.makeSlice 25 (.int .i64 40) (.int .i64 40)).run Tryd.prog W = .ok (.slice (some ⟨W.heap.size, 0, none⟩) 40 40) (W.alloc (.cells (List.replicate 40 (U8 0)).toArray 5)) := make_bytes 40 (by decide)
  have HZ : Hid (∀ W : World, Byt (W.alloc (.cells (List.replicate 40 (U8 0)).toArray 5)) (.slice (some ⟨W.heap.size, 0, none⟩) 40 40) (List.replicate 40 0)) := hidden (fun W => by
    have := byt_new W (List.replicate 40 0)
    simpa using this)
  generalize (List.replicate 40 (U8 0)).toArray = Z at hmk HZ
  have HA : Hid (∀ W : World, Byt (W.alloc (.cells #[.int .u8 97, .int .u8 98, .int .u8 99] 5 (3, 4))) (.slice (some ⟨W.heap.size, 0, none⟩) 3 3) [97, 98, 99]) := hidden (fun W => byt_mark W [97, 98, 99] (3, 4))
  clear hT
  have hnf := nil_func
  have hcs := fun W : World => conv_const W #[.int .u8 97, .int .u8 98, .int .u8 99] 3 3
  go_enter Tryd.func6, Tryd.ntmps6
  go_wp2_with (first
    | (go_at_call 10; refine (cuts_no not_zero 0 _ _).mono ?_; rintro e w1 ⟨rfl, k1⟩)
    | (go_at_call 19; refine (lives_next (HT.out.same (Kept.trans k1 (same_alloc _ _))) (HA.out _)).mono ?_; rintro e w2 ⟨rfl, k2⟩; have K2 : Same w w2 := Kept.trans (Kept.trans k1 (same_alloc _ _)) k2; clear k1 k2)
    | (go_at_call 19; refine (next_no not_zero 0 _ _).mono ?_; rintro e w3 ⟨rfl, k3⟩; have K3 : Same w w3 := Kept.trans K2 k3; clear K2 k3)
    | (go_at_call 7; refine (lives_lens (HT.out.same (Kept.trans K3 (same_alloc _ _))) (HZ.out _)).mono ?_; rintro e w4 ⟨u, rfl, c4, k4⟩; have K4 : Same w w4 := Kept.trans (Kept.trans K3 (same_alloc _ _)) k4; clear K3 k4)
    | (go_at_call 9; refine (sameInts_any _ _ [16, 16, 8] _ (c4.same (same_alloc _ _)) (cells_three _ 16 16 8) (by decide)).mono ?_; rintro e w5 ⟨rfl, k5⟩))
  go_returns
  exact ⟨rfl, Kept.trans (Kept.trans K4 (same_alloc _ _)) k5⟩
end Go.Proofs.YtdmekpokgnieeaaDoor
