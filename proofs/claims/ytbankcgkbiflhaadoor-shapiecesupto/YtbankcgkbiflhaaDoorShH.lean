/- A Hasher in memory: its cells; what more bytes make of them. -/
import Derived.Test.YtbankcgkbiflhaaDoorSh3
import Derived.Laws.CopyRow
namespace Go.Proofs.YtbankcgkbiflhaaDoor
open Go.RowKit
set_option linter.unusedVariables false

def hcells (s : S8) (bs : List UInt8) (n : Nat) : Array Value := (s.cells.toList ++ (bs.map U8 ++ [Value.int .i64 (n : Int)])).toArray
theorem hc_size (s : S8) (bs : List UInt8) (n : Nat) (h : bs.length = 64) : (hcells s bs n).size = 73 := by simp [hcells, S8.cells, h]
theorem cells_len (s : S8) : s.cells.toList.length = 8 := rfl
theorem hc_72 (s : S8) (bs : List UInt8) (n : Nat) (h : bs.length = 64) : (hcells s bs n)[72]? = some (.int .i64 (n : Int)) := by
  unfold hcells
  rw [List.getElem?_toArray, List.getElem?_append_right (by rw [cells_len]; omega), cells_len, List.getElem?_append_right (by rw [List.length_map]; omega), List.length_map, h]
  rfl
theorem hc_put (s : S8) (bs : List UInt8) (n m : Nat) (h : bs.length = 64) : (hcells s bs n).setIfInBounds 72 (.int .i64 (m : Int)) = hcells s bs m := by
  unfold hcells
  rw [List.setIfInBounds_toArray]
  congr 1
  rw [List.set_append_right _ _ (by rw [cells_len]; omega), cells_len, List.set_append_right _ _ (by rw [List.length_map]; omega), List.length_map, h]
  rfl
theorem hc_copy (s : S8) (bs new : List UInt8) (n k : Nat) (h : bs.length = 64) (hk : k + new.length ≤ 64) :
    ((hcells s bs n).toList.take (8 + k) ++ new.map U8 ++ (hcells s bs n).toList.drop (8 + k + (new.map U8).length)).toArray = hcells s (bs.take k ++ new ++ bs.drop (k + new.length)) n := by
  unfold hcells
  congr 1
  rw [List.toList_toArray, List.take_append, List.drop_append, cells_len, List.take_of_length_le (by rw [cells_len]; omega), List.drop_of_length_le (by rw [cells_len]; omega), List.nil_append, List.length_map, show 8 + k - 8 = k by omega, show 8 + k + new.length - 8 = k + new.length by omega]
  rw [List.take_append_of_le_length (by rw [List.length_map]; omega), List.drop_append_of_le_length (by rw [List.length_map]; omega), List.map_append, List.map_append, ← List.map_take, ← List.map_drop]
  simp only [List.append_assoc]
theorem hc_state (s q : S8) (bs : List UInt8) (n : Nat) : ((hcells s bs n).toList.take 0 ++ q.cells.toList ++ (hcells s bs n).toList.drop (0 + q.cells.toList.length)).toArray = hcells q bs n := by
  unfold hcells
  congr 1
theorem hc_range0 {w : World} {g : Nat} {t : TypeId} {s : S8} {bs : List UInt8} {n : Nat} (h : w.heap[g]? = some (.cells (hcells s bs n) t (0, 0))) : w.rangeAt g 0 s.cells.toList := fun j v hv => by
  have hj := (List.getElem?_eq_some_iff.1 hv).1
  rw [cell_of_row w g _ _ t _ h, Nat.zero_add]
  unfold hcells
  rw [List.getElem?_toArray, List.getElem?_append_left hj]
  exact hv
theorem hc_range8 {w : World} {g : Nat} {t : TypeId} {s : S8} {bs : List UInt8} {n : Nat} (h : w.heap[g]? = some (.cells (hcells s bs n) t (0, 0))) : w.rangeAt g 8 (bs.map U8) := fun j v hv => by
  have hj := (List.getElem?_eq_some_iff.1 hv).1
  rw [cell_of_row w g _ _ t _ h]
  unfold hcells
  rw [List.getElem?_toArray, List.getElem?_append_right (by rw [cells_len]; omega), cells_len, show 8 + j - 8 = j by omega, List.getElem?_append_left hj]
  exact hv
theorem blk_setCells {t : TypeId} {g : Nat} : ∀ (vs : List Value) (o : Nat) (cs : Array Value) (w : World), w.heap[g]? = some (.cells cs t (0, 0)) → o + vs.length ≤ cs.size →
    (w.setCells g o vs).heap[g]? = some (.cells (cs.toList.take o ++ vs ++ cs.toList.drop (o + vs.length)).toArray t (0, 0))
  | [], o, cs, w, h, hl => by simp [World.setCells, h]
  | v :: r, o, cs, w, h, hl => by
    rw [World.setCells]
    have := blk_setCells r (o + 1) (cs.setIfInBounds o v) (w.setCell ⟨g, o, none⟩ v) (blk_set h v) (by simp at hl ⊢; omega)
    rw [this]
    congr 3
    have hlt : o < cs.toList.length := by simp at hl ⊢; omega
    rw [Array.toList_setIfInBounds, List.drop_set, if_pos (by omega), List.length_cons, show o + 1 + r.length = o + (r.length + 1) by omega]
    congr 1
    rw [List.take_succ_eq_append_getElem (by simpa using hlt), List.take_set_of_le (Nat.le_refl o)]
    simp
theorem Kept.setCells {S : Nat → Prop} {g : Nat} (hp : S g) : ∀ (vs : List Value) (o : Nat) {a w : World}, Kept S a w → Kept S a (w.setCells g o vs)
  | [], _, _, _, h => h
  | v :: r, o, _, _, h => Kept.setCells hp r (o + 1) (h.setCell (p := ⟨g, o, none⟩) hp v)
/-- A Hasher to which L was written. -/
structure HW (w : World) (g : Nat) (L : List UInt8) : Prop where
  lies : ∃ bs, bs.length = 64 ∧ w.heap[g]? = some (.cells (hcells (runN L (L.length / 64)) bs L.length) 74 (0, 0)) ∧ bs.take (L.length % 64) = L.drop (64 * (L.length / 64))
theorem HW.kept {S : Nat → Prop} {w w' : World} {g : Nat} {L : List UInt8} (h : HW w g L) (k : Kept S w w') (hs : ¬ S g) : HW w' g L := by
  obtain ⟨bs, h1, h2, h3⟩ := h
  exact ⟨bs, h1, blk_kept k hs h2, h3⟩
theorem HW.lt {w : World} {g : Nat} {L : List UInt8} (h : HW w g L) : g < w.heap.size := by
  obtain ⟨bs, h1, h2, h3⟩ := h
  exact blk_lt h2
theorem wr_part (L new bs : List UInt8) (hbs : bs.length = 64) (h : bs.take (L.length % 64) = L.drop (64 * (L.length / 64))) (hm : L.length % 64 + new.length < 64) :
    runN (L ++ new) ((L ++ new).length / 64) = runN L (L.length / 64) ∧ (bs.take (L.length % 64) ++ new ++ bs.drop (L.length % 64 + new.length)).take ((L ++ new).length % 64) = (L ++ new).drop (64 * ((L ++ new).length / 64)) := by
  have e1 : (L ++ new).length / 64 = L.length / 64 := by rw [List.length_append]; omega
  have e2 : (L ++ new).length % 64 = L.length % 64 + new.length := by rw [List.length_append]; omega
  rw [e1, e2]
  refine ⟨runN_append _ _ _ (by omega), ?_⟩
  rw [List.take_append_of_le_length (by simp [hbs]; omega), List.take_of_length_le (by simp [hbs]; omega), h, List.drop_append_of_le_length (by omega)]
theorem wr_full (L new bs : List UInt8) (hbs : bs.length = 64) (h : bs.take (L.length % 64) = L.drop (64 * (L.length / 64))) (hm : L.length % 64 + new.length = 64) :
    blkS (runN L (L.length / 64)) (bs.take (L.length % 64) ++ new ++ bs.drop (L.length % 64 + new.length)) = runN (L ++ new) ((L ++ new).length / 64) ∧ ∀ x : List UInt8, x.take ((L ++ new).length % 64) = (L ++ new).drop (64 * ((L ++ new).length / 64)) := by
  have e1 : (L ++ new).length / 64 = L.length / 64 + 1 := by rw [List.length_append]; omega
  have e2 : (L ++ new).length % 64 = 0 := by rw [List.length_append]; omega
  rw [e1, e2]
  refine ⟨?_, fun x => ?_⟩
  · rw [runN, runN_append _ _ _ (by omega), h, hm, List.drop_of_length_le (l := bs) (by omega), List.append_nil, List.drop_append_of_le_length (by omega), List.take_of_length_le (by simp; omega)]
  · rw [List.take_zero, List.drop_of_length_le (by rw [List.length_append]; omega)]
theorem i74 : (Tryd.prog.info? 74).map (·.size) = some 73 := by kernel_rfl
end Go.Proofs.YtbankcgkbiflhaaDoor
