/- layout's EncodeSuper, walked. -/
import Derived.Test.YtilkpboegpfijaaDoorLay3
import Derived.Lib.BufferWrite
import Derived.Laws.OwnMore
namespace Go.Proofs.YtilkpboegpfijaaDoor
open Go.RowKit
set_option linter.unusedVariables false

/-- A superblock's bytes. -/
def superL (gen root sector sectors journal pack cmin cnorm cmax seed nbits : Nat) (dd : Bool) : List UInt8 :=
  frameL 83 ⟨(bodyL gen root sector sectors journal pack cmin cnorm cmax seed nbits dd).toArray⟩ ++ List.replicate (sector - 63) 0
/-- Bytes that lie in a block of their own. -/
structure Own (w : World) (v : Value) (l : List UInt8) (B : Nat) : Prop where
  lies : ∃ g, B ≤ g ∧ v = .slice (some ⟨g, 0, none⟩) l.length l.length ∧ w.heap[g]? = some (.cells (l.map U8).toArray 5 (0, 0))
/-- make([]byte, n). -/
theorem make_bytes (n : Nat) (hn : n ≤ 281474976710656) (W : World) :
    (Instr.makeSlice 51 (.int .i64 (n : Int)) (.int .i64 (n : Int))).run Tryd.prog W = .ok (.slice (some ⟨W.heap.size, 0, none⟩) n n) (W.alloc (.cells (List.replicate n (U8 0)).toArray 5)) := by
  obtain ⟨i0, hi, hz0, hz1, hz2⟩ := info_parts infoByte
  have h := run_make (P := Tryd.prog) W 51 5 i0 (.int .u8 0) Tryd.underlying51 hi hz0 .i64 .i64 (n : Int) (n : Int) (by omega) (by omega) (by rw [hz2]; omega) (by omega)
  have hM : madeCells (Value.int .u8 0).cells (n * i0.size) = (List.replicate n (U8 0)).toArray := by
    rw [hz1, Nat.mul_one]
    apply Array.ext'
    rw [List.toList_toArray]
    exact toList_madeCells_one _ _
  rw [Int.toNat_natCast, hM] at h
  exact h
/-- copy(make([]byte, n), s), if s is no longer. -/
theorem copy_made (n : Nat) (s : ByteArray) (hs : s.size ≤ n) (W : World) :
    (Builtin.copy_ #[51, 9] 3 #[.slice (some ⟨W.heap.size, 0, none⟩) n n, .string s]).run Tryd.prog (W.alloc (.cells (List.replicate n (U8 0)).toArray 5)) =
      .ok (goInt s.size) ((W.alloc (.cells (List.replicate n (U8 0)).toArray 5)).setRow W.heap.size ((s.data.toList ++ List.replicate (n - s.size) 0).map U8).toArray) := by
  obtain ⟨i0, hi, hz0, hz1, hz2⟩ := info_parts infoByte
  have h := Lib.run_copy_row_string (P := Tryd.prog) (W.alloc (.cells (List.replicate n (U8 0)).toArray 5)) 51 9 3 5 W.heap.size 0 n n s _ 5 Tryd.underlying51 (by rw [hi]; simp [hz1]) (heap_alloc_new W _) hs (by simp; omega)
  rw [h]
  have e : (List.take 0 (List.replicate n (U8 0)).toArray.toList ++ Lib.byteCells s.data.toList ++ List.drop (0 + s.size) (List.replicate n (U8 0)).toArray.toList) = (s.data.toList ++ List.replicate (n - s.size) 0).map U8 := by
    rw [List.toList_toArray, List.take_zero, List.nil_append, Nat.zero_add, List.drop_replicate, List.map_append, List.map_replicate]
    rfl
  rw [e]
theorem same_setRow {w W : World} (k : Same w W) (o : Obj) (cs : Array Value) : Same w ((W.alloc o).setRow W.heap.size cs) := by
  have hz := k.size
  exact ⟨k.os, k.tape, k.output, by simp; omega, fun i hi hs => ((setRow_other _ _ _ _ (by omega)).trans (Below.heap_alloc _ _ _ (by omega))).trans (k.block i hi hs)⟩
theorem own_setRow (W : World) (l : List UInt8) (n B : Nat) (hn : l.length = n) (hB : B ≤ W.heap.size) (o : Array Value) : Own ((W.alloc (.cells o 5)).setRow W.heap.size (l.map U8).toArray) (.slice (some ⟨W.heap.size, 0, none⟩) n n) l B :=
  ⟨W.heap.size, hB, by rw [hn], setRow_heap _ _ _ _ _ _ (heap_alloc_new W _)⟩
set_option maxHeartbeats 4000000 in
set_option maxRecDepth 100000 in
theorem enc_yes (gen root sector sectors journal pack cmin cnorm cmax seed nbits : Nat) (dd : Bool) (w : World) (hT : Tab w)
    (h0 : gen < 18446744073709551616) (h9 : seed < 18446744073709551616) (h : Shp sector sectors journal pack cmin cnorm cmax nbits) (hr : supErr sectors journal root (Shp sector sectors journal pack cmin cnorm cmax nbits) = 0) (hroot : root < 4294967296) :
    Calls Tryd.prog 50 #[.agg #[.int .u64 gen, .int .i64 root, .int .i64 sector, .int .i64 sectors, .int .i64 journal, .int .i64 pack, .int .i64 cmin, .int .i64 cnorm, .int .i64 cmax, .int .u64 seed, .int .i64 nbits, .bool dd]] w fun e w' => ∃ v, e = .returned (.tuple #[v, .int .i64 0]) ∧ Own w' v (superL gen root sector sectors journal pack cmin cnorm cmax seed nbits dd) w.heap.size ∧ Same w w' := by
  have hc := fun w => csup_any gen root sector sectors journal pack cmin cnorm cmax seed nbits dd w
  rw [hr] at hc
  have hs1 := h.1.1
  have hs2 := h.1.2.1
  have hcn := h.2.2.2.2.1.1
  have hb := fun w => bodyOf_any gen root sector sectors journal pack cmin cnorm cmax seed nbits dd w h0 hroot (by omega) (by have := h.2.1; omega) (by have := h.2.1; have := h.2.2.1; omega) (by have := h.2.2.2.1; omega) (by have := h.2.2.2.2.1.2.1; omega) (by omega) (by have := h.2.2.2.2.1.2.2.1; omega) h9 (by have := h.2.2.2.2.2; omega)
  have hf := fun w h => frame_in 83 ⟨(bodyL gen root sector sectors journal pack cmin cnorm cmax seed nbits dd).toArray⟩ w (by decide) (by rw [ba_size, bodyL_len]; decide) h
  have hn : (frameL 83 ⟨(bodyL gen root sector sectors journal pack cmin cnorm cmax seed nbits dd).toArray⟩).length = 63 := by rw [frameL_len, ba_size, bodyL_len]
  have hS : superL gen root sector sectors journal pack cmin cnorm cmax seed nbits dd = frameL 83 ⟨(bodyL gen root sector sectors journal pack cmin cnorm cmax seed nbits dd).toArray⟩ ++ List.replicate (sector - 63) 0 := rfl
  generalize frameL 83 ⟨(bodyL gen root sector sectors journal pack cmin cnorm cmax seed nbits dd).toArray⟩ = F at hf hn hS
  generalize (⟨(bodyL gen root sector sectors journal pack cmin cnorm cmax seed nbits dd).toArray⟩ : ByteArray) = Bd at hb hf
  have hmk := make_bytes sector (by omega)
  have hcp := copy_made sector ⟨F.toArray⟩ (by rw [ba_size]; omega)
  have hlen : (F ++ List.replicate (sector - 63) 0).length = sector := by rw [List.length_append, hn, List.length_replicate]; omega
  rw [ba_list, ba_size, hn] at hcp
  have HLen := hidden hlen
  clear hlen hn
  generalize F ++ List.replicate (sector - 63) 0 = SL at *
  generalize (List.replicate sector (U8 0)).toArray = Z at hmk hcp
  have HT := hidden hT
  have HC := hidden hc
  have HB := hidden hb
  have HF := hidden hf
  have HS := hidden hS
  clear hT hc hb hf hS hr hcn h
  go_enter Tryd.func50, Tryd.ntmps50
  go_wp2_with (first
    | (go_at_call 67; refine (HC.out _).mono ?_; rintro e w1 ⟨rfl, k1⟩; have bb := blk_kept k1 (fun h => h) (blk_new w _); have c0 : w1.cell? ⟨w.heap.size, 0, none⟩ = some (.int .u64 gen) := blk_cell bb; have c1 : w1.cell? ⟨w.heap.size, 1, none⟩ = some (.int .i64 root) := blk_cell bb; have c2 : w1.cell? ⟨w.heap.size, 2, none⟩ = some (.int .i64 sector) := blk_cell bb; have c3 : w1.cell? ⟨w.heap.size, 3, none⟩ = some (.int .i64 sectors) := blk_cell bb; have c4 : w1.cell? ⟨w.heap.size, 4, none⟩ = some (.int .i64 journal) := blk_cell bb; have c5 : w1.cell? ⟨w.heap.size, 5, none⟩ = some (.int .i64 pack) := blk_cell bb; have c6 : w1.cell? ⟨w.heap.size, 6, none⟩ = some (.int .i64 cmin) := blk_cell bb; have c7 : w1.cell? ⟨w.heap.size, 7, none⟩ = some (.int .i64 cnorm) := blk_cell bb; have c8 : w1.cell? ⟨w.heap.size, 8, none⟩ = some (.int .i64 cmax) := blk_cell bb; have c9 : w1.cell? ⟨w.heap.size, 9, none⟩ = some (.int .u64 seed) := blk_cell bb; have c10 : w1.cell? ⟨w.heap.size, 10, none⟩ = some (.int .i64 nbits) := blk_cell bb; have c11 : w1.cell? ⟨w.heap.size, 11, none⟩ = some (.bool dd) := blk_cell bb; clear bb)
    | (go_at_call 68; refine (HB.out _).mono ?_; rintro e w2 ⟨rfl, k2⟩; clear c0 c1 c2 c3 c4 c5 c6 c7 c8 c9 c10 c11; have K2 := Kept.trans k1 k2)
    | (go_at_call 23; refine (HF.out _ (HT.out.same (Kept.trans (same_alloc _ _) K2))).mono ?_; rintro e w3 ⟨rfl, k3⟩; have K3 := Kept.trans K2 k3; have d2 : w3.cell? ⟨w.heap.size, 2, none⟩ = some (.int .i64 sector) := box_cell 2 K3 rfl))
  go_returns
  refine ⟨_, rfl, ?_, ?_⟩
  · rw [HS.out]
    exact own_setRow w3 SL sector w.heap.size HLen.out (by have := K3.size; simp at this; omega) _
  · exact same_setRow (Kept.trans (same_alloc _ _) K3) _ _
theorem Own.same {w w' : World} {v : Value} {l : List UInt8} {B : Nat} (h : Own w v l B) (k : Same w w') : Own w' v l B := by
  obtain ⟨g, hB, e, hb⟩ := h
  exact ⟨g, hB, e, blk_kept k (fun h => h) hb⟩
theorem Own.text {w : World} {v : Value} {l : List UInt8} {B : Nat} (h : Own w v l B) : (convert 51 9 v).run Tryd.prog w = .ok (.string ⟨l.toArray⟩) w := by
  obtain ⟨g, hB, rfl, hb⟩ := h
  refine run_convert_bytes_back w 51 9 5 ⟨g, 0, none⟩ l.length l Tryd.underlying51 Tryd.underlying5 Tryd.underlying9 ?_
  intro j hj
  have hadd : (⟨g, 0, none⟩ : Addr).add j = ⟨g, j, none⟩ := by unfold Addr.add; split <;> simp_all
  rw [hadd, blk_cell hb]
  simp [hj, U8]
end Go.Proofs.YtilkpboegpfijaaDoor
