/- Bytes that are made, copied, held, and told as a text. (In seats without codec; JB has the same.) -/
import Derived.Test.YteoajgphahobiaaRows
import Derived.Test.YteoajgphahobiaaBase
import Derived.Lib.BufferWrite
import Derived.Laws.OwnMore
import Derived.Laws.CopyRow
import Derived.Handy
import Derived.BigQuiet
import Derived.Deep.QuietTactic
import Derived.Deep.RegionHeld3
import Derived.Deep.RegionLaw
import Derived.Deep.AppendLies
namespace Go.Proofs.Yteoajgphahobiaa
open Go.RowKit
set_option linter.unusedVariables false

theorem info5 : (Try.prog.info? 5).map (fun i => (i.zero, i.size, i.bytes)) = some (some (.int .u8 0), 1, 1) := by kernel_rfl
/-- Nothing that was there has turned. -/
abbrev Same (w w' : World) : Prop := Kept (fun _ => False) w w'
theorem same_alloc (w : World) (o : Obj) : Same w (w.alloc o) := (Kept.refl _ _).alloc o
/-- Bytes that lie in a block of their own, from B on. -/
structure Own (w : World) (v : Value) (l : List UInt8) (B : Nat) : Prop where
  lies : ∃ g, B ≤ g ∧ v = .slice (some ⟨g, 0, none⟩) l.length l.length ∧ w.heap[g]? = some (.cells (l.map U8).toArray 5 (0, 0))
/-- Bytes among what was there. -/
def Byt (w : World) (v : Value) (l : List UInt8) : Prop :=
  v = .slice none 0 0 ∧ l = [] ∨ ∃ a cap, v = .slice (some a) l.length cap ∧ ∀ j (hj : j < l.length), w.cell? (a.add j) = some (U8 l[j])
theorem Byt.same {w w' : World} {v : Value} {l : List UInt8} (h : Byt w v l) (k : Same w w') : Byt w' v l := by
  rcases h with h | ⟨a, cap, e, hc⟩
  · exact Or.inl h
  · exact Or.inr ⟨a, cap, e, fun j hj => Kept.cell k (fun h => h) (hc j hj)⟩
theorem Byt.form {w : World} {v : Value} {l : List UInt8} (h : Byt w v l) : ∃ a cap, v = .slice a l.length cap := by
  rcases h with ⟨rfl, rfl⟩ | ⟨a, cap, rfl, _⟩
  · exact ⟨none, 0, rfl⟩
  · exact ⟨_, _, rfl⟩
theorem add_none (g i j : Nat) : (⟨g, i, none⟩ : Addr).add j = ⟨g, i + j, none⟩ := by unfold Addr.add; split <;> simp_all
theorem Own.byt {w : World} {v : Value} {l : List UInt8} {B : Nat} (h : Own w v l B) : Byt w v l := by
  obtain ⟨g, _, rfl, hb⟩ := h
  refine Or.inr ⟨_, _, rfl, fun j hj => ?_⟩
  rw [add_none, blk_cell hb]
  simp [hj]
theorem Own.same {w w' : World} {v : Value} {l : List UInt8} {B : Nat} (h : Own w v l B) (k : Same w w') : Own w' v l B := by
  obtain ⟨g, hB, e, hb⟩ := h
  exact ⟨g, hB, e, blk_kept k (fun h => h) hb⟩
theorem Own.kept {w w' : World} {v : Value} {l : List UInt8} {B : Nat} {S : Nat → Prop} (h : Own w v l B) (k : Kept S w w') (hs : ∀ i cs, B ≤ i → w.heap[i]? = some (.cells cs 5 (0, 0)) → ¬ S i) : Own w' v l B := by
  obtain ⟨g, hB, e, hb⟩ := h
  exact ⟨g, hB, e, blk_kept k (hs g _ hB hb) hb⟩
theorem Own.weak {w : World} {v : Value} {l : List UInt8} {B C : Nat} (h : Own w v l B) (hc : C ≤ B) : Own w v l C := by
  obtain ⟨g, hB, e, hb⟩ := h
  exact ⟨g, Nat.le_trans hc hB, e, hb⟩
theorem make_bytes (n : Nat) (hn : n ≤ 281474976710656) (W : World) :
    (Instr.makeSlice 22 (.int .i64 (n : Int)) (.int .i64 (n : Int))).run Try.prog W = .ok (.slice (some ⟨W.heap.size, 0, none⟩) n n) (W.alloc (.cells (List.replicate n (U8 0)).toArray 5)) := by
  obtain ⟨i0, hi, hz0, hz1, hz2⟩ := info_parts info5
  have h := run_make (P := Try.prog) W 22 5 i0 (.int .u8 0) Try.underlying22 hi hz0 .i64 .i64 (n : Int) (n : Int) (by omega) (by omega) (by rw [hz2]; omega) (by omega)
  have hM : madeCells (Value.int .u8 0).cells (n * i0.size) = (List.replicate n (U8 0)).toArray := by
    rw [hz1, Nat.mul_one]
    apply Array.ext'
    rw [List.toList_toArray]
    exact toList_madeCells_one _ _
  rw [Int.toNat_natCast, hM] at h
  exact h
theorem same_setRow {w W : World} (k : Same w W) {g : Nat} (hg : w.heap.size ≤ g) (cs : Array Value) : Same w (W.setRow g cs) := by
  have hz := k.size
  exact ⟨k.os, k.tape, k.output, by simp; omega, fun i hi hs => (setRow_other _ _ _ _ (by omega)).trans (k.block i hi hs)⟩
/-- copy(make([]byte, len(b)), b). -/
theorem copy_all (v : Value) (l : List UInt8) (W : World) (hb : Byt W v l) (g : Nat) (hg : W.heap[g]? = some (.cells (List.replicate l.length (U8 0)).toArray 5 (0, 0))) :
    (Builtin.copy_ #[22, 22] 3 #[.slice (some ⟨g, 0, none⟩) l.length l.length, v]).run Try.prog W = .ok (goInt l.length) (W.setRow g (l.map U8).toArray) := by
  obtain ⟨i0, hi, hz0, hz1, hz2⟩ := info_parts info5
  rcases hb with ⟨rfl, rfl⟩ | ⟨a, cap, rfl, hc⟩
  · rw [run_copy_nil (P := Try.prog) W 22 22 3 5 _ _ _ Try.underlying22 (by rw [hi]; simp)]
    have e : (([] : List UInt8).map U8).toArray = (List.replicate ([] : List UInt8).length (U8 0)).toArray := rfl
    rw [e, setRow_self W g _ _ _ hg]
    rfl
  · have h := run_copy_row (P := Try.prog) W 22 22 3 5 g 0 l.length l.length a l.length cap _ _ (l.map U8) Try.underlying22 (by rw [hi]; simp [hz1]) hg (by rw [List.length_map]; exact (Nat.min_self _).symm)
      (fun j x hx => by
        rw [List.getElem?_map, Option.map_eq_some_iff] at hx
        obtain ⟨b, hx, rfl⟩ := hx
        obtain ⟨hj, rfl⟩ := List.getElem?_eq_some_iff.1 hx
        exact hc j hj) (by simp) (fun x hx => by
        rw [List.mem_map] at hx
        obtain ⟨b, _, rfl⟩ := hx
        exact U8_one b)
    rw [h, List.length_map]
    have e : List.take 0 (List.replicate l.length (U8 0)).toArray.toList ++ l.map U8 ++ List.drop (0 + l.length) (List.replicate l.length (U8 0)).toArray.toList = l.map U8 := by
      rw [List.toList_toArray, List.take_zero, List.nil_append, Nat.zero_add, List.drop_replicate, Nat.sub_self, List.replicate_zero, List.append_nil]
    rw [e]
end Go.Proofs.Yteoajgphahobiaa
