/- Bytes that are made, copied, held, and told as a text; a journal's sector as bytes. -/
import Derived.Test.YtljbmpnpbjnbkaaDoorFit
import Derived.Lib.BufferWrite
import Derived.Laws.OwnMore
import Derived.Laws.CopyRow
namespace Go.Proofs.YtljbmpnpbjnbkaaDoor
open Go.RowKit
set_option linter.unusedVariables false

/-- Bytes that lie in a block of their own, from B on. -/
structure Own (w : World) (v : Value) (l : List UInt8) (B : Nat) : Prop where
  lies : ∃ g, B ≤ g ∧ v = .slice (some ⟨g, 0, none⟩) l.length l.length ∧ w.heap[g]? = some (.cells (l.map U8).toArray 5 (0, 0))
/-- Bytes among what was there. -/
def Byt (w : World) (v : Value) (l : List UInt8) : Prop :=
  v = .slice none 0 0 ∧ l = [] ∨ ∃ a cap, v = .slice (some a) l.length cap ∧ ∀ j (hj : j < l.length), w.cell? (a.add j) = some (U8 l[j])
theorem Byt.same {w w' : World} {v : Value} {l : List UInt8} (h : Byt w v l) (k : Same w w') : Byt w' v l := by
  rcases h with h | ⟨a, cap, e, hc⟩
  · exact Or.inl h
  · exact Or.inr ⟨a, cap, e, fun j hj => Kept.cell k (fun h => h) (hc j hj)⟩
theorem Byt.text {w : World} {v : Value} {l : List UInt8} (h : Byt w v l) : (convert 39 9 v).run Tryd.prog w = .ok (.string ⟨l.toArray⟩) w := by
  rcases h with ⟨rfl, rfl⟩ | ⟨a, cap, rfl, hc⟩
  · exact run_convert_bytes_nil w 39 5 Tryd.underlying39 Tryd.underlying5 0 0 9 Tryd.underlying9
  · exact run_convert_bytes_back w 39 9 5 a cap l Tryd.underlying39 Tryd.underlying5 Tryd.underlying9 fun j hj => hc j hj
theorem Byt.form {w : World} {v : Value} {l : List UInt8} (h : Byt w v l) : ∃ a cap, v = .slice a l.length cap := by
  rcases h with ⟨rfl, rfl⟩ | ⟨a, cap, rfl, _⟩
  · exact ⟨none, 0, rfl⟩
  · exact ⟨_, _, rfl⟩
theorem add_none (g i j : Nat) : (⟨g, i, none⟩ : Addr).add j = ⟨g, i + j, none⟩ := by unfold Addr.add; split <;> simp_all
theorem Own.byt {w : World} {v : Value} {l : List UInt8} {B : Nat} (h : Own w v l B) : Byt w v l := by
  obtain ⟨g, _, rfl, hb⟩ := h
  refine Or.inr ⟨_, _, rfl, fun j hj => ?_⟩
  rw [add_none, blk_cell hb]
  simp [hj]
theorem Own.same {w w' : World} {v : Value} {l : List UInt8} {B : Nat} (h : Own w v l B) (k : Same w w') : Own w' v l B := by
  obtain ⟨g, hB, e, hb⟩ := h
  exact ⟨g, hB, e, blk_kept k (fun h => h) hb⟩
theorem make_bytes (n : Nat) (hn : n ≤ 281474976710656) (W : World) :
    (Instr.makeSlice 39 (.int .i64 (n : Int)) (.int .i64 (n : Int))).run Tryd.prog W = .ok (.slice (some ⟨W.heap.size, 0, none⟩) n n) (W.alloc (.cells (List.replicate n (U8 0)).toArray 5)) := by
  obtain ⟨i0, hi, hz0, hz1, hz2⟩ := info_parts info5
  have h := run_make (P := Tryd.prog) W 39 5 i0 (.int .u8 0) Tryd.underlying39 hi hz0 .i64 .i64 (n : Int) (n : Int) (by omega) (by omega) (by rw [hz2]; omega) (by omega)
  have hM : madeCells (Value.int .u8 0).cells (n * i0.size) = (List.replicate n (U8 0)).toArray := by
    rw [hz1, Nat.mul_one]
    apply Array.ext'
    rw [List.toList_toArray]
    exact toList_madeCells_one _ _
  rw [Int.toNat_natCast, hM] at h
  exact h
theorem same_alloc (w : World) (o : Obj) : Same w (w.alloc o) := (Kept.refl _ _).alloc o
theorem same_setRow {w W : World} (k : Same w W) {g : Nat} (hg : w.heap.size ≤ g) (cs : Array Value) : Same w (W.setRow g cs) := by
  have hz := k.size
  exact ⟨k.os, k.tape, k.output, by simp; omega, fun i hi hs => (setRow_other _ _ _ _ (by omega)).trans (k.block i hi hs)⟩

/-! ### A sector -/
/-- The mark, the generation, the place, how many bytes. -/
def jhead (gen place n : Nat) : List UInt8 := [68, 74, 82, 78] ++ be 8 gen ++ be 4 place ++ be 4 n
def jbody (size : Nat) (us : List UInt8) : List UInt8 := us ++ List.replicate (size - 24 - us.length) 0
def jhead2 (size gen place : Nat) (us : List UInt8) : List UInt8 := jhead gen place us.length ++ be 4 (crc (jhead gen place us.length ++ jbody size us))
def jsec (size gen place : Nat) (us : List UInt8) : List UInt8 := jhead2 size gen place us ++ jbody size us
theorem jhead_len (gen place n : Nat) : (jhead gen place n).length = 20 := by simp [jhead, be_length]
theorem jbody_len (size : Nat) (us : List UInt8) (h : us.length + 24 ≤ size) : (jbody size us).length = size - 24 := by simp [jbody]; omega
theorem jhead2_len (size gen place : Nat) (us : List UInt8) : (jhead2 size gen place us).length = 24 := by rw [jhead2, List.length_append, jhead_len, be_length]
theorem jsec_len (size gen place : Nat) (us : List UInt8) (h : us.length + 24 ≤ size) : (jsec size gen place us).length = size := by
  rw [jsec, List.length_append, jhead2_len, jbody_len size us h]; omega
/-- copy(b[24:], used) into zeros. -/
theorem copy_used (n : Nat) (v : Value) (us : List UInt8) (W : World) (hb : Byt W v us) (hu : us.length + 24 ≤ n) (g : Nat) (hg : W.heap[g]? = some (.cells (List.replicate n (U8 0)).toArray 5 (0, 0))) :
    (Builtin.copy_ #[39, 39] 3 #[.slice (some ⟨g, 24, none⟩) (n - 24) (n - 24), v]).run Tryd.prog W = .ok (goInt us.length) (W.setRow g ((List.replicate 24 0 ++ jbody n us).map U8).toArray) := by
  obtain ⟨i0, hi, hz0, hz1, hz2⟩ := info_parts info5
  rcases hb with ⟨rfl, rfl⟩ | ⟨a, cap, rfl, hc⟩
  · rw [run_copy_nil (P := Tryd.prog) W 39 39 3 5 _ _ _ Tryd.underlying39 (by rw [hi]; simp)]
    have e : ((List.replicate 24 0 ++ jbody n []).map U8) = List.replicate n (U8 0) := by
      have h24 : 24 + (n - 24) = n := by simp at hu; omega
      rw [jbody, List.nil_append, List.length_nil, Nat.sub_zero, List.replicate_append_replicate, List.map_replicate, h24]
    rw [e, setRow_self W g _ _ _ hg]
    rfl
  · have h := run_copy_row (P := Tryd.prog) W 39 39 3 5 g 24 (n - 24) (n - 24) a us.length cap _ _ (us.map U8) Tryd.underlying39 (by rw [hi]; simp [hz1]) hg (by rw [List.length_map]; exact (Nat.min_eq_left (by omega)).symm)
      (fun j x hx => by
        rw [List.getElem?_map, Option.map_eq_some_iff] at hx
        obtain ⟨b, hx, rfl⟩ := hx
        obtain ⟨hj, rfl⟩ := List.getElem?_eq_some_iff.1 hx
        exact hc j hj) (by simp; omega) (fun x hx => by
        rw [List.mem_map] at hx
        obtain ⟨b, _, rfl⟩ := hx
        exact U8_one b)
    rw [h, List.length_map]
    have e : List.take 24 (List.replicate n (U8 0)).toArray.toList ++ us.map U8 ++ List.drop (24 + us.length) (List.replicate n (U8 0)).toArray.toList = (List.replicate 24 0 ++ jbody n us).map U8 := by
      rw [List.toList_toArray, List.take_replicate, List.drop_replicate, jbody, List.map_append, List.map_append, List.map_replicate, List.map_replicate, Nat.min_eq_left (by omega), Nat.sub_sub, List.append_assoc]
    rw [e]
/-- b[24:] behind it. -/
theorem byt_tail (n g : Nat) (us : List UInt8) (W : World) (hu : us.length + 24 ≤ n) (hg : W.heap[g]? = some (.cells ((List.replicate 24 0 ++ jbody n us).map U8).toArray 5 (0, 0))) :
    Byt W (.slice (some ⟨g, 24, none⟩) (n - 24) (n - 24)) (jbody n us) := by
  have hl := jbody_len n us hu
  refine Or.inr ⟨_, _, by rw [hl], fun j hj => ?_⟩
  rw [add_none, blk_cell hg]
  simp only [List.getElem?_toArray, List.getElem?_map]
  rw [List.getElem?_append_right (by simp)]
  simp [hj]
/-- copy(b, head) at last. -/
theorem copy_head (n g : Nat) (hd bd : List UInt8) (W : World) (h1 : hd.length = 24) (h2 : bd.length = n - 24) (h3 : 24 ≤ n) (hg : W.heap[g]? = some (.cells ((List.replicate 24 0 ++ bd).map U8).toArray 5 (0, 0))) :
    (Builtin.copy_ #[39, 9] 3 #[.slice (some ⟨g, 0, none⟩) n n, .string ⟨hd.toArray⟩]).run Tryd.prog W = .ok (goInt 24) (W.setRow g ((hd ++ bd).map U8).toArray) := by
  obtain ⟨i0, hi, hz0, hz1, hz2⟩ := info_parts info5
  have hs : (⟨hd.toArray⟩ : ByteArray).size = 24 := by rw [ba_size, h1]
  have h := Lib.run_copy_row_string (P := Tryd.prog) W 39 9 3 5 g 0 n n ⟨hd.toArray⟩ _ 5 Tryd.underlying39 (by rw [hi]; simp [hz1]) hg (by omega) (by rw [hs]; simp)
  rw [h, hs]
  have e : List.take 0 ((List.replicate 24 0 ++ bd).map U8).toArray.toList ++ Lib.byteCells (⟨hd.toArray⟩ : ByteArray).data.toList ++ List.drop (0 + 24) ((List.replicate 24 0 ++ bd).map U8).toArray.toList = (hd ++ bd).map U8 := by
    have hr : ((List.replicate 24 (0 : UInt8)).map U8).length = 24 := by simp
    rw [List.toList_toArray, List.take_zero, List.nil_append, ba_list, Nat.zero_add, List.map_append, List.map_append, List.drop_left' hr]
    rfl
  rw [e]
  rfl
end Go.Proofs.YtljbmpnpbjnbkaaDoor
