/- node: a head. (Made by a script in the session of round 9.) -/
import Derived.Test.YtmkjmdiliaaepaaDoorN7
namespace Go.Proofs.YtmkjmdiliaaepaaDoor
open Go.RowKit
set_option linter.unusedVariables false
set_option linter.unusedSimpArgs false
/-- copy of a text into a row that is known whole. -/
theorem copy_str (s : List UInt8) (W : World) (g o dLen dCap : Nat) (cur : Array Value) (t : TypeId) (hg : W.heap[g]? = some (.cells cur t (0, 0))) (hle : s.length ≤ dLen) (hfit : o + s.length ≤ cur.size) :
    ∃ W', (Builtin.copy_ #[27, 9] 3 #[.slice (some ⟨g, o, none⟩) dLen dCap, .string ⟨s.toArray⟩]).run Tryd.prog W = .ok (goInt s.length) W' ∧ W'.heap[g]? = some (.cells (cur.toList.take o ++ s.map U8 ++ cur.toList.drop (o + s.length)).toArray t (0, 0)) ∧ Kept (only g) W W' := by
  obtain ⟨i0, hi, hz0, hz1, hz2⟩ := info_parts info5
  have hs : (⟨s.toArray⟩ : ByteArray).size = s.length := ba_size s
  have h := Lib.run_copy_row_string (P := Tryd.prog) W 27 9 3 5 g o dLen dCap ⟨s.toArray⟩ cur t Tryd.underlying27 (by rw [hi]; simp [hz1]) hg (by rw [hs]; exact hle) (by rw [hs]; exact hfit)
  rw [hs, ba_list] at h
  have e : Lib.byteCells s = s.map U8 := rfl
  rw [e] at h
  exact ⟨_, h, setRow_heap W g cur _ t _ hg, ⟨rfl, rfl, rfl, by simp, fun k hk hne => setRow_other _ _ _ _ hne⟩⟩
theorem fill9 {W : World} {g : Nat} {t : TypeId} {z0 z1 z2 z3 z4 z5 z6 z7 z8 : Value} (h : W.heap[g]? = some (.cells #[z0, z1, z2, z3, z4, z5, z6, z7, z8] t (0, 0))) (v0 v1 v2 v3 v4 v5 v6 v7 v8 : Value) :
    ((World.setCell (World.setCell (World.setCell (World.setCell (World.setCell (World.setCell (World.setCell (World.setCell (World.setCell W ⟨g, 0, none⟩ (v0)) ⟨g, 1, none⟩ (v1)) ⟨g, 2, none⟩ (v2)) ⟨g, 3, none⟩ (v3)) ⟨g, 4, none⟩ (v4)) ⟨g, 5, none⟩ (v5)) ⟨g, 6, none⟩ (v6)) ⟨g, 7, none⟩ (v7)) ⟨g, 8, none⟩ (v8))).heap[g]? = some (.cells #[v0, v1, v2, v3, v4, v5, v6, v7, v8] t (0, 0)) := by
  have h1 : (World.setCell W ⟨g, 0, none⟩ v0).heap[g]? = some (.cells #[v0, z1, z2, z3, z4, z5, z6, z7, z8] t (0, 0)) := blk_set h v0
  generalize World.setCell W ⟨g, 0, none⟩ v0 = W1 at h1 ⊢
  have h2 : (World.setCell W1 ⟨g, 1, none⟩ v1).heap[g]? = some (.cells #[v0, v1, z2, z3, z4, z5, z6, z7, z8] t (0, 0)) := blk_set h1 v1
  generalize World.setCell W1 ⟨g, 1, none⟩ v1 = W2 at h2 ⊢
  have h3 : (World.setCell W2 ⟨g, 2, none⟩ v2).heap[g]? = some (.cells #[v0, v1, v2, z3, z4, z5, z6, z7, z8] t (0, 0)) := blk_set h2 v2
  generalize World.setCell W2 ⟨g, 2, none⟩ v2 = W3 at h3 ⊢
  have h4 : (World.setCell W3 ⟨g, 3, none⟩ v3).heap[g]? = some (.cells #[v0, v1, v2, v3, z4, z5, z6, z7, z8] t (0, 0)) := blk_set h3 v3
  generalize World.setCell W3 ⟨g, 3, none⟩ v3 = W4 at h4 ⊢
  have h5 : (World.setCell W4 ⟨g, 4, none⟩ v4).heap[g]? = some (.cells #[v0, v1, v2, v3, v4, z5, z6, z7, z8] t (0, 0)) := blk_set h4 v4
  generalize World.setCell W4 ⟨g, 4, none⟩ v4 = W5 at h5 ⊢
  have h6 : (World.setCell W5 ⟨g, 5, none⟩ v5).heap[g]? = some (.cells #[v0, v1, v2, v3, v4, v5, z6, z7, z8] t (0, 0)) := blk_set h5 v5
  generalize World.setCell W5 ⟨g, 5, none⟩ v5 = W6 at h6 ⊢
  have h7 : (World.setCell W6 ⟨g, 6, none⟩ v6).heap[g]? = some (.cells #[v0, v1, v2, v3, v4, v5, v6, z7, z8] t (0, 0)) := blk_set h6 v6
  generalize World.setCell W6 ⟨g, 6, none⟩ v6 = W7 at h7 ⊢
  have h8 : (World.setCell W7 ⟨g, 7, none⟩ v7).heap[g]? = some (.cells #[v0, v1, v2, v3, v4, v5, v6, v7, z8] t (0, 0)) := blk_set h7 v7
  generalize World.setCell W7 ⟨g, 7, none⟩ v7 = W8 at h8 ⊢
  have h9 : (World.setCell W8 ⟨g, 8, none⟩ v8).heap[g]? = some (.cells #[v0, v1, v2, v3, v4, v5, v6, v7, v8] t (0, 0)) := blk_set h8 v8
  exact h9
theorem same_fill9 {w W : World} (k : Same w W) {g : Nat} (hg : w.heap.size ≤ g) (v0 v1 v2 v3 v4 v5 v6 v7 v8 : Value) : Same w (World.setCell (World.setCell (World.setCell (World.setCell (World.setCell (World.setCell (World.setCell (World.setCell (World.setCell W ⟨g, 0, none⟩ (v0)) ⟨g, 1, none⟩ (v1)) ⟨g, 2, none⟩ (v2)) ⟨g, 3, none⟩ (v3)) ⟨g, 4, none⟩ (v4)) ⟨g, 5, none⟩ (v5)) ⟨g, 6, none⟩ (v6)) ⟨g, 7, none⟩ (v7)) ⟨g, 8, none⟩ (v8)) := by
  have k1 := k.setNew (p := ⟨g, 0, none⟩) hg v0
  have k2 := k1.setNew (p := ⟨g, 1, none⟩) hg v1
  have k3 := k2.setNew (p := ⟨g, 2, none⟩) hg v2
  have k4 := k3.setNew (p := ⟨g, 3, none⟩) hg v3
  have k5 := k4.setNew (p := ⟨g, 4, none⟩) hg v4
  have k6 := k5.setNew (p := ⟨g, 5, none⟩) hg v5
  have k7 := k6.setNew (p := ⟨g, 6, none⟩) hg v6
  have k8 := k7.setNew (p := ⟨g, 7, none⟩) hg v7
  have k9 := k8.setNew (p := ⟨g, 8, none⟩) hg v8
  exact k9
set_option maxHeartbeats 2000000 in
set_option maxRecDepth 100000 in
theorem headOf_leaf (n : Nd) (a1 a2 a3 : Option Addr) (k1 c1 k2 c2 k3 c3 : Nat) (es : List UInt8) (w : World) (hl : n.leaf = true) (h1 : k1 < 65536) (h2 : es.length < 4294967296) (hT : Tab w) :
    Calls Tryd.prog 33 #[.agg #[.bool n.leaf, .slice a1 k1 c1, .slice a2 k2 c2, .slice a3 k3 c3], .string ⟨es.toArray⟩] w fun e w' => e = .returned (.agg #[.int .u8 68, .int .u8 78, .int .u8 79, .int .u8 68, .int .u8 1, .int .u8 0, .int .u16 k1, .int .u32 es.length, .int .u32 (crc ((headB 1 k1 es.length 0).take 12 ++ es) : Nat)]) ∧ Same w w' := by
  rw [hl]
  have hsz : (⟨es.toArray⟩ : ByteArray).size = es.length := ba_size es
  have q1 : IntKind.u16.wrap (k1 : Int) = (k1 : Int) := by simp [IntKind.wrap, IntKind.signed, IntKind.bits]; omega
  have q2 : IntKind.u32.wrap (es.length : Int) = (es.length : Int) := by simp [IntKind.wrap, IntKind.signed, IntKind.bits]; omega
  have HTx := hidden (fun W => text_any 1 k1 es.length 0 (by decide) h1 h2 (by decide) W)
  have l16 := headB_len 1 k1 es.length 0
  have hcut : ∀ W : World, (Instr.sliceAt 9 (.string ⟨(headB 1 k1 es.length 0).toArray⟩) none (some (.int .i64 12)) none).run Tryd.prog W = .ok (.string ⟨((headB 1 k1 es.length 0).take 12).toArray⟩) W := fun W => by
    rw [run_sliceAt_string (h := Tryd.underlying9), run_slice_string_to_if (h := Tryd.underlying9), if_pos (by rw [ba_size, l16]; decide)]
    have e : (⟨(headB 1 k1 es.length 0).toArray⟩ : ByteArray).extract 0 (12 : Int).toNat = ⟨((headB 1 k1 es.length 0).take 12).toArray⟩ := by
      apply ByteArray.ext
      rw [ByteArray.data_extract]
      simp
    rw [e]
  have hadd : ∀ W : World, (Op.stringOp .add ⟨((headB 1 k1 es.length 0).take 12).toArray⟩ ⟨es.toArray⟩).run Tryd.prog W = .ok (.string ⟨((headB 1 k1 es.length 0).take 12 ++ es).toArray⟩) W := fun W => by
    rw [run_string_add_sum W _ _ (by rw [ba_size, ba_size, List.length_take]; omega)]
    first | rfl | (congr 2; apply ByteArray.ext; simp)
  have HCr := hidden (fun W h => crc_any ⟨((headB 1 k1 es.length 0).take 12 ++ es).toArray⟩ W (by rw [ba_size, List.length_append, List.length_take]; omega) h)
  rw [ba_list] at HCr
  have K0 : Same w (((w.alloc (.cells #[.bool true, .slice a1 k1 c1, .slice a2 k2 c2, .slice a3 k3 c3] 25)).alloc (.cells #[.int .u8 0, .int .u8 0, .int .u8 0, .int .u8 0, .int .u8 0, .int .u8 0, .int .u16 0, .int .u32 0, .int .u32 0] 62)).alloc (.cells #[.int .u8 0, .int .u8 0, .int .u8 0, .int .u8 0, .int .u8 1, .int .u8 0, .int .u16 k1, .int .u32 es.length, .int .u32 0] 62)) := (((Kept.refl _ w).alloc _).alloc _).alloc _
  have g2 : (((w.alloc (.cells #[.bool true, .slice a1 k1 c1, .slice a2 k2 c2, .slice a3 k3 c3] 25)).alloc (.cells #[.int .u8 0, .int .u8 0, .int .u8 0, .int .u8 0, .int .u8 0, .int .u8 0, .int .u16 0, .int .u32 0, .int .u32 0] 62)).alloc (.cells #[.int .u8 0, .int .u8 0, .int .u8 0, .int .u8 0, .int .u8 1, .int .u8 0, .int .u16 k1, .int .u32 es.length, .int .u32 0] 62)).heap[w.heap.size + 1 + 1]? = some (.cells #[.int .u8 0, .int .u8 0, .int .u8 0, .int .u8 0, .int .u8 1, .int .u8 0, .int .u16 k1, .int .u32 es.length, .int .u32 0] 62 (0, 0)) := by
    have := blk_new ((w.alloc (.cells #[.bool true, .slice a1 k1 c1, .slice a2 k2 c2, .slice a3 k3 c3] 25)).alloc (.cells #[.int .u8 0, .int .u8 0, .int .u8 0, .int .u8 0, .int .u8 0, .int .u8 0, .int .u16 0, .int .u32 0, .int .u32 0] 62)) (.cells #[.int .u8 0, .int .u8 0, .int .u8 0, .int .u8 0, .int .u8 1, .int .u8 0, .int .u16 k1, .int .u32 es.length, .int .u32 0] 62)
    simpa using this
  have g1 : (((w.alloc (.cells #[.bool true, .slice a1 k1 c1, .slice a2 k2 c2, .slice a3 k3 c3] 25)).alloc (.cells #[.int .u8 0, .int .u8 0, .int .u8 0, .int .u8 0, .int .u8 0, .int .u8 0, .int .u16 0, .int .u32 0, .int .u32 0] 62)).alloc (.cells #[.int .u8 0, .int .u8 0, .int .u8 0, .int .u8 0, .int .u8 1, .int .u8 0, .int .u16 k1, .int .u32 es.length, .int .u32 0] 62)).heap[w.heap.size + 1]? = some (.cells #[.int .u8 0, .int .u8 0, .int .u8 0, .int .u8 0, .int .u8 0, .int .u8 0, .int .u16 0, .int .u32 0, .int .u32 0] 62 (0, 0)) := by
    have := blk_new (w.alloc (.cells #[.bool true, .slice a1 k1 c1, .slice a2 k2 c2, .slice a3 k3 c3] 25)) (.cells #[.int .u8 0, .int .u8 0, .int .u8 0, .int .u8 0, .int .u8 0, .int .u8 0, .int .u16 0, .int .u32 0, .int .u32 0] 62)
    exact blk_alloc (by simpa using this) _
  obtain ⟨W3, hcp, b3, k3⟩ := copy_str [68, 78, 79, 68] _ (w.heap.size + 1 + 1) 0 4 4 _ _ g2 (by decide) (by simp)
  have b3' : W3.heap[w.heap.size + 1 + 1]? = some (.cells #[.int .u8 68, .int .u8 78, .int .u8 79, .int .u8 68, .int .u8 1, .int .u8 0, .int .u16 k1, .int .u32 es.length, .int .u32 0] 62 (0, 0)) := b3
  have r3 := blk_kept k3 (fun h => by have h : w.heap.size + 1 = w.heap.size + 1 + 1 := h; omega) g1
  have K3 : Same w W3 := K0.trans' k3 (fun i hi hs => by have : i = w.heap.size + 1 + 1 := hs; omega)
  have x0 : W3.cell? ⟨w.heap.size + 1 + 1, 0, none⟩ = some (.int .u8 68) := blk_cell b3'
  have x1 : W3.cell? ⟨w.heap.size + 1 + 1, 1, none⟩ = some (.int .u8 78) := blk_cell b3'
  have x2 : W3.cell? ⟨w.heap.size + 1 + 1, 2, none⟩ = some (.int .u8 79) := blk_cell b3'
  have x3 : W3.cell? ⟨w.heap.size + 1 + 1, 3, none⟩ = some (.int .u8 68) := blk_cell b3'
  have x4 : W3.cell? ⟨w.heap.size + 1 + 1, 4, none⟩ = some (.int .u8 1) := blk_cell b3'
  have x5 : W3.cell? ⟨w.heap.size + 1 + 1, 5, none⟩ = some (.int .u8 0) := blk_cell b3'
  have x6 : W3.cell? ⟨w.heap.size + 1 + 1, 6, none⟩ = some (.int .u16 k1) := blk_cell b3'
  have x7 : W3.cell? ⟨w.heap.size + 1 + 1, 7, none⟩ = some (.int .u32 es.length) := blk_cell b3'
  have x8 : W3.cell? ⟨w.heap.size + 1 + 1, 8, none⟩ = some (.int .u32 0) := blk_cell b3'
  have BB := hidden b3'
  have RR := hidden r3
  have KK := hidden K3
  have HT := hidden hT
  clear b3 b3' r3 K3 k3 g1 g2 K0 hT hl h1 h2 l16
  generalize crc ((headB 1 k1 es.length 0).take 12 ++ es) = c at *
  generalize (headB 1 k1 es.length 0).take 12 ++ es = L2 at *
  generalize (headB 1 k1 es.length 0).take 12 = L1 at *
  generalize headB 1 k1 es.length 0 = L0 at *
  go_enter Tryd.func33, Tryd.ntmps33
  go_wp2_with (first
    | (go_at_call 34; refine (HTx.out _).mono ?_; rintro e w4 ⟨rfl, k4⟩
       have b4 := blk_kept k4 (fun h => h) BB.out
       have r4 := blk_kept k4 (fun h => h) RR.out
       have y8 : w4.cell? ⟨w.heap.size + 1 + 1, 8, none⟩ = some (.int .u32 0) := blk_cell b4
       have y8f : w4.frozen? ⟨w.heap.size + 1 + 1, 8, none⟩ = false := blk_free b4
       have K4 := hidden (KK.out.trans k4)
       have b5 : (w4.setCell ⟨w.heap.size + 1 + 1, 8, none⟩ (.int .u32 (c : Nat))).heap[w.heap.size + 1 + 1]? = some (.cells #[.int .u8 68, .int .u8 78, .int .u8 79, .int .u8 68, .int .u8 1, .int .u8 0, .int .u16 k1, .int .u32 es.length, .int .u32 (c : Nat)] 62 (0, 0)) := blk_set b4 _
       have r5 := blk_kept ((Kept.refl (only (w.heap.size + 1 + 1)) w4).setCell (p := ⟨w.heap.size + 1 + 1, 8, none⟩) rfl (.int .u32 (c : Nat))) (fun h => by have h : w.heap.size + 1 = w.heap.size + 1 + 1 := h; omega) r4
       have K5 := hidden (K4.out.setNew (p := ⟨w.heap.size + 1 + 1, 8, none⟩) (by show w.heap.size ≤ w.heap.size + 1 + 1; omega) (.int .u32 (c : Nat)))
       have u0 : (w4.setCell ⟨w.heap.size + 1 + 1, 8, none⟩ (.int .u32 (c : Nat))).cell? ⟨w.heap.size + 1 + 1, 0, none⟩ = some (.int .u8 68) := blk_cell b5
       have u1 : (w4.setCell ⟨w.heap.size + 1 + 1, 8, none⟩ (.int .u32 (c : Nat))).cell? ⟨w.heap.size + 1 + 1, 1, none⟩ = some (.int .u8 78) := blk_cell b5
       have u2 : (w4.setCell ⟨w.heap.size + 1 + 1, 8, none⟩ (.int .u32 (c : Nat))).cell? ⟨w.heap.size + 1 + 1, 2, none⟩ = some (.int .u8 79) := blk_cell b5
       have u3 : (w4.setCell ⟨w.heap.size + 1 + 1, 8, none⟩ (.int .u32 (c : Nat))).cell? ⟨w.heap.size + 1 + 1, 3, none⟩ = some (.int .u8 68) := blk_cell b5
       have u4 : (w4.setCell ⟨w.heap.size + 1 + 1, 8, none⟩ (.int .u32 (c : Nat))).cell? ⟨w.heap.size + 1 + 1, 4, none⟩ = some (.int .u8 1) := blk_cell b5
       have u5 : (w4.setCell ⟨w.heap.size + 1 + 1, 8, none⟩ (.int .u32 (c : Nat))).cell? ⟨w.heap.size + 1 + 1, 5, none⟩ = some (.int .u8 0) := blk_cell b5
       have u6 : (w4.setCell ⟨w.heap.size + 1 + 1, 8, none⟩ (.int .u32 (c : Nat))).cell? ⟨w.heap.size + 1 + 1, 6, none⟩ = some (.int .u16 k1) := blk_cell b5
       have u7 : (w4.setCell ⟨w.heap.size + 1 + 1, 8, none⟩ (.int .u32 (c : Nat))).cell? ⟨w.heap.size + 1 + 1, 7, none⟩ = some (.int .u32 es.length) := blk_cell b5
       have u8 : (w4.setCell ⟨w.heap.size + 1 + 1, 8, none⟩ (.int .u32 (c : Nat))).cell? ⟨w.heap.size + 1 + 1, 8, none⟩ = some (.int .u32 (c : Nat)) := blk_cell b5
       have t0 : (w4.setCell ⟨w.heap.size + 1 + 1, 8, none⟩ (.int .u32 (c : Nat))).cell? ⟨w.heap.size + 1, 0, none⟩ = some (.int .u8 0) := blk_cell r5
       have t1 : (w4.setCell ⟨w.heap.size + 1 + 1, 8, none⟩ (.int .u32 (c : Nat))).cell? ⟨w.heap.size + 1, 1, none⟩ = some (.int .u8 0) := blk_cell r5
       have t2 : (w4.setCell ⟨w.heap.size + 1 + 1, 8, none⟩ (.int .u32 (c : Nat))).cell? ⟨w.heap.size + 1, 2, none⟩ = some (.int .u8 0) := blk_cell r5
       have t3 : (w4.setCell ⟨w.heap.size + 1 + 1, 8, none⟩ (.int .u32 (c : Nat))).cell? ⟨w.heap.size + 1, 3, none⟩ = some (.int .u8 0) := blk_cell r5
       have t4 : (w4.setCell ⟨w.heap.size + 1 + 1, 8, none⟩ (.int .u32 (c : Nat))).cell? ⟨w.heap.size + 1, 4, none⟩ = some (.int .u8 0) := blk_cell r5
       have t5 : (w4.setCell ⟨w.heap.size + 1 + 1, 8, none⟩ (.int .u32 (c : Nat))).cell? ⟨w.heap.size + 1, 5, none⟩ = some (.int .u8 0) := blk_cell r5
       have t6 : (w4.setCell ⟨w.heap.size + 1 + 1, 8, none⟩ (.int .u32 (c : Nat))).cell? ⟨w.heap.size + 1, 6, none⟩ = some (.int .u16 0) := blk_cell r5
       have t7 : (w4.setCell ⟨w.heap.size + 1 + 1, 8, none⟩ (.int .u32 (c : Nat))).cell? ⟨w.heap.size + 1, 7, none⟩ = some (.int .u32 0) := blk_cell r5
       have t8 : (w4.setCell ⟨w.heap.size + 1 + 1, 8, none⟩ (.int .u32 (c : Nat))).cell? ⟨w.heap.size + 1, 8, none⟩ = some (.int .u32 0) := blk_cell r5
       have tf0 : (w4.setCell ⟨w.heap.size + 1 + 1, 8, none⟩ (.int .u32 (c : Nat))).frozen? ⟨w.heap.size + 1, 0, none⟩ = false := blk_free r5
       have tf1 : (w4.setCell ⟨w.heap.size + 1 + 1, 8, none⟩ (.int .u32 (c : Nat))).frozen? ⟨w.heap.size + 1, 1, none⟩ = false := blk_free r5
       have tf2 : (w4.setCell ⟨w.heap.size + 1 + 1, 8, none⟩ (.int .u32 (c : Nat))).frozen? ⟨w.heap.size + 1, 2, none⟩ = false := blk_free r5
       have tf3 : (w4.setCell ⟨w.heap.size + 1 + 1, 8, none⟩ (.int .u32 (c : Nat))).frozen? ⟨w.heap.size + 1, 3, none⟩ = false := blk_free r5
       have tf4 : (w4.setCell ⟨w.heap.size + 1 + 1, 8, none⟩ (.int .u32 (c : Nat))).frozen? ⟨w.heap.size + 1, 4, none⟩ = false := blk_free r5
       have tf5 : (w4.setCell ⟨w.heap.size + 1 + 1, 8, none⟩ (.int .u32 (c : Nat))).frozen? ⟨w.heap.size + 1, 5, none⟩ = false := blk_free r5
       have tf6 : (w4.setCell ⟨w.heap.size + 1 + 1, 8, none⟩ (.int .u32 (c : Nat))).frozen? ⟨w.heap.size + 1, 6, none⟩ = false := blk_free r5
       have tf7 : (w4.setCell ⟨w.heap.size + 1 + 1, 8, none⟩ (.int .u32 (c : Nat))).frozen? ⟨w.heap.size + 1, 7, none⟩ = false := blk_free r5
       have tf8 : (w4.setCell ⟨w.heap.size + 1 + 1, 8, none⟩ (.int .u32 (c : Nat))).frozen? ⟨w.heap.size + 1, 8, none⟩ = false := blk_free r5
       have R5 := hidden r5
       clear b4 r4 k4 b5 r5)
    | (go_at_call 63; refine (HCr.out _ (HT.out.same K4.out)).mono ?_; rintro e w5 ⟨rfl, rfl⟩))
  generalize (w4.setCell ⟨w.heap.size + 1 + 1, 8, none⟩ (.int .u32 (c : Nat))) = W5 at *
  have gf := fill9 R5.out (.int .u8 68) (.int .u8 78) (.int .u8 79) (.int .u8 68) (.int .u8 1) (.int .u8 0) (.int .u16 k1) (.int .u32 es.length) (.int .u32 (c : Nat))
  have sf := same_fill9 K5.out (g := w.heap.size + 1) (by omega) (.int .u8 68) (.int .u8 78) (.int .u8 79) (.int .u8 68) (.int .u8 1) (.int .u8 0) (.int .u16 k1) (.int .u32 es.length) (.int .u32 (c : Nat))
  generalize (World.setCell (World.setCell (World.setCell (World.setCell (World.setCell (World.setCell (World.setCell (World.setCell (World.setCell W5 ⟨w.heap.size + 1, 0, none⟩ (.int .u8 68)) ⟨w.heap.size + 1, 1, none⟩ (.int .u8 78)) ⟨w.heap.size + 1, 2, none⟩ (.int .u8 79)) ⟨w.heap.size + 1, 3, none⟩ (.int .u8 68)) ⟨w.heap.size + 1, 4, none⟩ (.int .u8 1)) ⟨w.heap.size + 1, 5, none⟩ (.int .u8 0)) ⟨w.heap.size + 1, 6, none⟩ (.int .u16 k1)) ⟨w.heap.size + 1, 7, none⟩ (.int .u32 es.length)) ⟨w.heap.size + 1, 8, none⟩ (.int .u32 (c : Nat))) = WF at gf sf ⊢
  have p0 : WF.cell? ⟨w.heap.size + 1, 0, none⟩ = some (.int .u8 68) := blk_cell gf
  have p1 : WF.cell? ⟨w.heap.size + 1, 1, none⟩ = some (.int .u8 78) := blk_cell gf
  have p2 : WF.cell? ⟨w.heap.size + 1, 2, none⟩ = some (.int .u8 79) := blk_cell gf
  have p3 : WF.cell? ⟨w.heap.size + 1, 3, none⟩ = some (.int .u8 68) := blk_cell gf
  have p4 : WF.cell? ⟨w.heap.size + 1, 4, none⟩ = some (.int .u8 1) := blk_cell gf
  have p5 : WF.cell? ⟨w.heap.size + 1, 5, none⟩ = some (.int .u8 0) := blk_cell gf
  have p6 : WF.cell? ⟨w.heap.size + 1, 6, none⟩ = some (.int .u16 k1) := blk_cell gf
  have p7 : WF.cell? ⟨w.heap.size + 1, 7, none⟩ = some (.int .u32 es.length) := blk_cell gf
  have p8 : WF.cell? ⟨w.heap.size + 1, 8, none⟩ = some (.int .u32 (c : Nat)) := blk_cell gf
  exact bodyPost_ret (v := .agg #[.int .u8 68, .int .u8 78, .int .u8 79, .int .u8 68, .int .u8 1, .int .u8 0, .int .u16 k1, .int .u32 es.length, .int .u32 (c : Nat)]) (by simp [results, Tryd.results33, go_sem, p0, p1, p2, p3, p4, p5, p6, p7, p8]) rfl ⟨rfl, sf⟩
end Go.Proofs.YtmkjmdiliaaepaaDoor
