/- node: a node as a value (NdR); the document's Size; Size of a node that may be; Same. (Made of N43, N51, N55, N56.) -/
import Derived.Test.YtpjgghalnkfdkaaDoorNE0
import Derived.Test.YtpjgghalnkfdkaaDoorPowP
/- node: the entries' bytes of an inner node; of either. -/
/- node: a head of an inner node; of either; zeros; maySize. (Made of N8.) -/
namespace Go.Proofs.YtpjgghalnkfdkaaDoor
open Go.RowKit
set_option linter.unusedVariables false
set_option linter.unusedSimpArgs false
set_option maxHeartbeats 2000000 in
set_option maxRecDepth 100000 in
theorem headOf_inner (n : Nd) (a1 a2 a3 : Option Addr) (k1 c1 k2 c2 k3 c3 : Nat) (es : List UInt8) (w : World) (hl : n.leaf = false) (h1 : k1 < 65536) (h2 : es.length < 4294967296) (hT : Tab w) :
    Calls Tryd.prog 33 #[.agg #[.bool n.leaf, .slice a1 k1 c1, .slice a2 k2 c2, .slice a3 k3 c3], .string ⟨es.toArray⟩] w fun e w' => e = .returned (.agg #[.int .u8 68, .int .u8 78, .int .u8 79, .int .u8 68, .int .u8 2, .int .u8 0, .int .u16 k1, .int .u32 es.length, .int .u32 (crc ((headB 2 k1 es.length 0).take 12 ++ es) : Nat)]) ∧ Same w w' := by
  rw [hl]
  have hsz : (⟨es.toArray⟩ : ByteArray).size = es.length := ba_size es
  have q1 : IntKind.u16.wrap (k1 : Int) = (k1 : Int) := by simp [IntKind.wrap, IntKind.signed, IntKind.bits]; omega
  have q2 : IntKind.u32.wrap (es.length : Int) = (es.length : Int) := by simp [IntKind.wrap, IntKind.signed, IntKind.bits]; omega
  have HTx := hidden (fun W => text_any 2 k1 es.length 0 (by decide) h1 h2 (by decide) W)
  have l16 := headB_len 2 k1 es.length 0
  have hcut : ∀ W : World, (Instr.sliceAt 9 (.string ⟨(headB 2 k1 es.length 0).toArray⟩) none (some (.int .i64 12)) none).run Tryd.prog W = .ok (.string ⟨((headB 2 k1 es.length 0).take 12).toArray⟩) W := fun W => by
    rw [run_sliceAt_string (h := Tryd.underlying9), run_slice_string_to_if (h := Tryd.underlying9), if_pos (by rw [ba_size, l16]; decide)]
    have e : (⟨(headB 2 k1 es.length 0).toArray⟩ : ByteArray).extract 0 (12 : Int).toNat = ⟨((headB 2 k1 es.length 0).take 12).toArray⟩ := by
      apply ByteArray.ext
      rw [ByteArray.data_extract]
      simp
    rw [e]
  have hadd : ∀ W : World, (Op.stringOp .add ⟨((headB 2 k1 es.length 0).take 12).toArray⟩ ⟨es.toArray⟩).run Tryd.prog W = .ok (.string ⟨((headB 2 k1 es.length 0).take 12 ++ es).toArray⟩) W := fun W => by
    rw [run_string_add_sum W _ _ (by rw [ba_size, ba_size, List.length_take]; omega)]
    first | rfl | (congr 2; apply ByteArray.ext; simp)
  have HCr := hidden (fun W h => crc_any ⟨((headB 2 k1 es.length 0).take 12 ++ es).toArray⟩ W (by rw [ba_size, List.length_append, List.length_take]; omega) h)
  rw [ba_list] at HCr
  have K0 : Same w (((w.alloc (.cells #[.bool false, .slice a1 k1 c1, .slice a2 k2 c2, .slice a3 k3 c3] 25)).alloc (.cells #[.int .u8 0, .int .u8 0, .int .u8 0, .int .u8 0, .int .u8 0, .int .u8 0, .int .u16 0, .int .u32 0, .int .u32 0] 62)).alloc (.cells #[.int .u8 0, .int .u8 0, .int .u8 0, .int .u8 0, .int .u8 2, .int .u8 0, .int .u16 k1, .int .u32 es.length, .int .u32 0] 62)) := (((Kept.refl _ w).alloc _).alloc _).alloc _
  have g2 : (((w.alloc (.cells #[.bool false, .slice a1 k1 c1, .slice a2 k2 c2, .slice a3 k3 c3] 25)).alloc (.cells #[.int .u8 0, .int .u8 0, .int .u8 0, .int .u8 0, .int .u8 0, .int .u8 0, .int .u16 0, .int .u32 0, .int .u32 0] 62)).alloc (.cells #[.int .u8 0, .int .u8 0, .int .u8 0, .int .u8 0, .int .u8 2, .int .u8 0, .int .u16 k1, .int .u32 es.length, .int .u32 0] 62)).heap[w.heap.size + 1 + 1]? = some (.cells #[.int .u8 0, .int .u8 0, .int .u8 0, .int .u8 0, .int .u8 2, .int .u8 0, .int .u16 k1, .int .u32 es.length, .int .u32 0] 62 (0, 0)) := by
    have := blk_new ((w.alloc (.cells #[.bool false, .slice a1 k1 c1, .slice a2 k2 c2, .slice a3 k3 c3] 25)).alloc (.cells #[.int .u8 0, .int .u8 0, .int .u8 0, .int .u8 0, .int .u8 0, .int .u8 0, .int .u16 0, .int .u32 0, .int .u32 0] 62)) (.cells #[.int .u8 0, .int .u8 0, .int .u8 0, .int .u8 0, .int .u8 2, .int .u8 0, .int .u16 k1, .int .u32 es.length, .int .u32 0] 62)
    simpa using this
  have g1 : (((w.alloc (.cells #[.bool false, .slice a1 k1 c1, .slice a2 k2 c2, .slice a3 k3 c3] 25)).alloc (.cells #[.int .u8 0, .int .u8 0, .int .u8 0, .int .u8 0, .int .u8 0, .int .u8 0, .int .u16 0, .int .u32 0, .int .u32 0] 62)).alloc (.cells #[.int .u8 0, .int .u8 0, .int .u8 0, .int .u8 0, .int .u8 2, .int .u8 0, .int .u16 k1, .int .u32 es.length, .int .u32 0] 62)).heap[w.heap.size + 1]? = some (.cells #[.int .u8 0, .int .u8 0, .int .u8 0, .int .u8 0, .int .u8 0, .int .u8 0, .int .u16 0, .int .u32 0, .int .u32 0] 62 (0, 0)) := by
    have := blk_new (w.alloc (.cells #[.bool false, .slice a1 k1 c1, .slice a2 k2 c2, .slice a3 k3 c3] 25)) (.cells #[.int .u8 0, .int .u8 0, .int .u8 0, .int .u8 0, .int .u8 0, .int .u8 0, .int .u16 0, .int .u32 0, .int .u32 0] 62)
    exact blk_alloc (by simpa using this) _
  obtain ⟨W3, hcp, b3, k3⟩ := copy_str [68, 78, 79, 68] _ (w.heap.size + 1 + 1) 0 4 4 _ _ g2 (by decide) (by simp)
  have b3' : W3.heap[w.heap.size + 1 + 1]? = some (.cells #[.int .u8 68, .int .u8 78, .int .u8 79, .int .u8 68, .int .u8 2, .int .u8 0, .int .u16 k1, .int .u32 es.length, .int .u32 0] 62 (0, 0)) := b3
  have r3 := blk_kept k3 (fun h => by have h : w.heap.size + 1 = w.heap.size + 1 + 1 := h; omega) g1
  have K3 : Same w W3 := K0.trans' k3 (fun i hi hs => by have : i = w.heap.size + 1 + 1 := hs; omega)
  have x0 : W3.cell? ⟨w.heap.size + 1 + 1, 0, none⟩ = some (.int .u8 68) := blk_cell b3'
  have x1 : W3.cell? ⟨w.heap.size + 1 + 1, 1, none⟩ = some (.int .u8 78) := blk_cell b3'
  have x2 : W3.cell? ⟨w.heap.size + 1 + 1, 2, none⟩ = some (.int .u8 79) := blk_cell b3'
  have x3 : W3.cell? ⟨w.heap.size + 1 + 1, 3, none⟩ = some (.int .u8 68) := blk_cell b3'
  have x4 : W3.cell? ⟨w.heap.size + 1 + 1, 4, none⟩ = some (.int .u8 2) := blk_cell b3'
  have x5 : W3.cell? ⟨w.heap.size + 1 + 1, 5, none⟩ = some (.int .u8 0) := blk_cell b3'
  have x6 : W3.cell? ⟨w.heap.size + 1 + 1, 6, none⟩ = some (.int .u16 k1) := blk_cell b3'
  have x7 : W3.cell? ⟨w.heap.size + 1 + 1, 7, none⟩ = some (.int .u32 es.length) := blk_cell b3'
  have x8 : W3.cell? ⟨w.heap.size + 1 + 1, 8, none⟩ = some (.int .u32 0) := blk_cell b3'
  have BB := hidden b3'
  have RR := hidden r3
  have KK := hidden K3
  have HT := hidden hT
  clear b3 b3' r3 K3 k3 g1 g2 K0 hT hl h1 h2 l16
  generalize crc ((headB 2 k1 es.length 0).take 12 ++ es) = c at *
  generalize (headB 2 k1 es.length 0).take 12 ++ es = L2 at *
  generalize (headB 2 k1 es.length 0).take 12 = L1 at *
  generalize headB 2 k1 es.length 0 = L0 at *
  go_enter Tryd.func33, Tryd.ntmps33
  go_wp2_with (first
    | (go_at_call 34; refine (HTx.out _).mono ?_; rintro e w4 ⟨rfl, k4⟩
       have b4 := blk_kept k4 (fun h => h) BB.out
       have r4 := blk_kept k4 (fun h => h) RR.out
       have y8 : w4.cell? ⟨w.heap.size + 1 + 1, 8, none⟩ = some (.int .u32 0) := blk_cell b4
       have y8f : w4.frozen? ⟨w.heap.size + 1 + 1, 8, none⟩ = false := blk_free b4
       have K4 := hidden (KK.out.trans k4)
       have b5 : (w4.setCell ⟨w.heap.size + 1 + 1, 8, none⟩ (.int .u32 (c : Nat))).heap[w.heap.size + 1 + 1]? = some (.cells #[.int .u8 68, .int .u8 78, .int .u8 79, .int .u8 68, .int .u8 2, .int .u8 0, .int .u16 k1, .int .u32 es.length, .int .u32 (c : Nat)] 62 (0, 0)) := blk_set b4 _
       have r5 := blk_kept ((Kept.refl (only (w.heap.size + 1 + 1)) w4).setCell (p := ⟨w.heap.size + 1 + 1, 8, none⟩) rfl (.int .u32 (c : Nat))) (fun h => by have h : w.heap.size + 1 = w.heap.size + 1 + 1 := h; omega) r4
       have K5 := hidden (K4.out.setNew (p := ⟨w.heap.size + 1 + 1, 8, none⟩) (by show w.heap.size ≤ w.heap.size + 1 + 1; omega) (.int .u32 (c : Nat)))
       have u0 : (w4.setCell ⟨w.heap.size + 1 + 1, 8, none⟩ (.int .u32 (c : Nat))).cell? ⟨w.heap.size + 1 + 1, 0, none⟩ = some (.int .u8 68) := blk_cell b5
       have u1 : (w4.setCell ⟨w.heap.size + 1 + 1, 8, none⟩ (.int .u32 (c : Nat))).cell? ⟨w.heap.size + 1 + 1, 1, none⟩ = some (.int .u8 78) := blk_cell b5
       have u2 : (w4.setCell ⟨w.heap.size + 1 + 1, 8, none⟩ (.int .u32 (c : Nat))).cell? ⟨w.heap.size + 1 + 1, 2, none⟩ = some (.int .u8 79) := blk_cell b5
       have u3 : (w4.setCell ⟨w.heap.size + 1 + 1, 8, none⟩ (.int .u32 (c : Nat))).cell? ⟨w.heap.size + 1 + 1, 3, none⟩ = some (.int .u8 68) := blk_cell b5
       have u4 : (w4.setCell ⟨w.heap.size + 1 + 1, 8, none⟩ (.int .u32 (c : Nat))).cell? ⟨w.heap.size + 1 + 1, 4, none⟩ = some (.int .u8 2) := blk_cell b5
       have u5 : (w4.setCell ⟨w.heap.size + 1 + 1, 8, none⟩ (.int .u32 (c : Nat))).cell? ⟨w.heap.size + 1 + 1, 5, none⟩ = some (.int .u8 0) := blk_cell b5
       have u6 : (w4.setCell ⟨w.heap.size + 1 + 1, 8, none⟩ (.int .u32 (c : Nat))).cell? ⟨w.heap.size + 1 + 1, 6, none⟩ = some (.int .u16 k1) := blk_cell b5
       have u7 : (w4.setCell ⟨w.heap.size + 1 + 1, 8, none⟩ (.int .u32 (c : Nat))).cell? ⟨w.heap.size + 1 + 1, 7, none⟩ = some (.int .u32 es.length) := blk_cell b5
       have u8 : (w4.setCell ⟨w.heap.size + 1 + 1, 8, none⟩ (.int .u32 (c : Nat))).cell? ⟨w.heap.size + 1 + 1, 8, none⟩ = some (.int .u32 (c : Nat)) := blk_cell b5
       have t0 : (w4.setCell ⟨w.heap.size + 1 + 1, 8, none⟩ (.int .u32 (c : Nat))).cell? ⟨w.heap.size + 1, 0, none⟩ = some (.int .u8 0) := blk_cell r5
       have t1 : (w4.setCell ⟨w.heap.size + 1 + 1, 8, none⟩ (.int .u32 (c : Nat))).cell? ⟨w.heap.size + 1, 1, none⟩ = some (.int .u8 0) := blk_cell r5
       have t2 : (w4.setCell ⟨w.heap.size + 1 + 1, 8, none⟩ (.int .u32 (c : Nat))).cell? ⟨w.heap.size + 1, 2, none⟩ = some (.int .u8 0) := blk_cell r5
       have t3 : (w4.setCell ⟨w.heap.size + 1 + 1, 8, none⟩ (.int .u32 (c : Nat))).cell? ⟨w.heap.size + 1, 3, none⟩ = some (.int .u8 0) := blk_cell r5
       have t4 : (w4.setCell ⟨w.heap.size + 1 + 1, 8, none⟩ (.int .u32 (c : Nat))).cell? ⟨w.heap.size + 1, 4, none⟩ = some (.int .u8 0) := blk_cell r5
       have t5 : (w4.setCell ⟨w.heap.size + 1 + 1, 8, none⟩ (.int .u32 (c : Nat))).cell? ⟨w.heap.size + 1, 5, none⟩ = some (.int .u8 0) := blk_cell r5
       have t6 : (w4.setCell ⟨w.heap.size + 1 + 1, 8, none⟩ (.int .u32 (c : Nat))).cell? ⟨w.heap.size + 1, 6, none⟩ = some (.int .u16 0) := blk_cell r5
       have t7 : (w4.setCell ⟨w.heap.size + 1 + 1, 8, none⟩ (.int .u32 (c : Nat))).cell? ⟨w.heap.size + 1, 7, none⟩ = some (.int .u32 0) := blk_cell r5
       have t8 : (w4.setCell ⟨w.heap.size + 1 + 1, 8, none⟩ (.int .u32 (c : Nat))).cell? ⟨w.heap.size + 1, 8, none⟩ = some (.int .u32 0) := blk_cell r5
       have tf0 : (w4.setCell ⟨w.heap.size + 1 + 1, 8, none⟩ (.int .u32 (c : Nat))).frozen? ⟨w.heap.size + 1, 0, none⟩ = false := blk_free r5
       have tf1 : (w4.setCell ⟨w.heap.size + 1 + 1, 8, none⟩ (.int .u32 (c : Nat))).frozen? ⟨w.heap.size + 1, 1, none⟩ = false := blk_free r5
       have tf2 : (w4.setCell ⟨w.heap.size + 1 + 1, 8, none⟩ (.int .u32 (c : Nat))).frozen? ⟨w.heap.size + 1, 2, none⟩ = false := blk_free r5
       have tf3 : (w4.setCell ⟨w.heap.size + 1 + 1, 8, none⟩ (.int .u32 (c : Nat))).frozen? ⟨w.heap.size + 1, 3, none⟩ = false := blk_free r5
       have tf4 : (w4.setCell ⟨w.heap.size + 1 + 1, 8, none⟩ (.int .u32 (c : Nat))).frozen? ⟨w.heap.size + 1, 4, none⟩ = false := blk_free r5
       have tf5 : (w4.setCell ⟨w.heap.size + 1 + 1, 8, none⟩ (.int .u32 (c : Nat))).frozen? ⟨w.heap.size + 1, 5, none⟩ = false := blk_free r5
       have tf6 : (w4.setCell ⟨w.heap.size + 1 + 1, 8, none⟩ (.int .u32 (c : Nat))).frozen? ⟨w.heap.size + 1, 6, none⟩ = false := blk_free r5
       have tf7 : (w4.setCell ⟨w.heap.size + 1 + 1, 8, none⟩ (.int .u32 (c : Nat))).frozen? ⟨w.heap.size + 1, 7, none⟩ = false := blk_free r5
       have tf8 : (w4.setCell ⟨w.heap.size + 1 + 1, 8, none⟩ (.int .u32 (c : Nat))).frozen? ⟨w.heap.size + 1, 8, none⟩ = false := blk_free r5
       have R5 := hidden r5
       clear b4 r4 k4 b5 r5)
    | (go_at_call 63; refine (HCr.out _ (HT.out.same K4.out)).mono ?_; rintro e w5 ⟨rfl, rfl⟩))
  generalize (w4.setCell ⟨w.heap.size + 1 + 1, 8, none⟩ (.int .u32 (c : Nat))) = W5 at *
  have gf := fill9 R5.out (.int .u8 68) (.int .u8 78) (.int .u8 79) (.int .u8 68) (.int .u8 2) (.int .u8 0) (.int .u16 k1) (.int .u32 es.length) (.int .u32 (c : Nat))
  have sf := same_fill9 K5.out (g := w.heap.size + 1) (by omega) (.int .u8 68) (.int .u8 78) (.int .u8 79) (.int .u8 68) (.int .u8 2) (.int .u8 0) (.int .u16 k1) (.int .u32 es.length) (.int .u32 (c : Nat))
  generalize (World.setCell (World.setCell (World.setCell (World.setCell (World.setCell (World.setCell (World.setCell (World.setCell (World.setCell W5 ⟨w.heap.size + 1, 0, none⟩ (.int .u8 68)) ⟨w.heap.size + 1, 1, none⟩ (.int .u8 78)) ⟨w.heap.size + 1, 2, none⟩ (.int .u8 79)) ⟨w.heap.size + 1, 3, none⟩ (.int .u8 68)) ⟨w.heap.size + 1, 4, none⟩ (.int .u8 2)) ⟨w.heap.size + 1, 5, none⟩ (.int .u8 0)) ⟨w.heap.size + 1, 6, none⟩ (.int .u16 k1)) ⟨w.heap.size + 1, 7, none⟩ (.int .u32 es.length)) ⟨w.heap.size + 1, 8, none⟩ (.int .u32 (c : Nat))) = WF at gf sf ⊢
  have p0 : WF.cell? ⟨w.heap.size + 1, 0, none⟩ = some (.int .u8 68) := blk_cell gf
  have p1 : WF.cell? ⟨w.heap.size + 1, 1, none⟩ = some (.int .u8 78) := blk_cell gf
  have p2 : WF.cell? ⟨w.heap.size + 1, 2, none⟩ = some (.int .u8 79) := blk_cell gf
  have p3 : WF.cell? ⟨w.heap.size + 1, 3, none⟩ = some (.int .u8 68) := blk_cell gf
  have p4 : WF.cell? ⟨w.heap.size + 1, 4, none⟩ = some (.int .u8 2) := blk_cell gf
  have p5 : WF.cell? ⟨w.heap.size + 1, 5, none⟩ = some (.int .u8 0) := blk_cell gf
  have p6 : WF.cell? ⟨w.heap.size + 1, 6, none⟩ = some (.int .u16 k1) := blk_cell gf
  have p7 : WF.cell? ⟨w.heap.size + 1, 7, none⟩ = some (.int .u32 es.length) := blk_cell gf
  have p8 : WF.cell? ⟨w.heap.size + 1, 8, none⟩ = some (.int .u32 (c : Nat)) := blk_cell gf
  exact bodyPost_ret (v := .agg #[.int .u8 68, .int .u8 78, .int .u8 79, .int .u8 68, .int .u8 2, .int .u8 0, .int .u16 k1, .int .u32 es.length, .int .u32 (c : Nat)]) (by simp [results, Tryd.results33, go_sem, p0, p1, p2, p3, p4, p5, p6, p7, p8]) rfl ⟨rfl, sf⟩
/-- A head as a value. -/
def hdV (kd ks : Nat) (es : List UInt8) : Value := .agg #[.int .u8 68, .int .u8 78, .int .u8 79, .int .u8 68, .int .u8 kd, .int .u8 0, .int .u16 ks, .int .u32 es.length, .int .u32 (crc ((headB kd ks es.length 0).take 12 ++ es) : Nat)]
theorem headOf_any (n : Nd) (a1 a2 a3 : Option Addr) (k1 c1 k2 c2 k3 c3 : Nat) (es : List UInt8) (w : World) (h1 : k1 < 65536) (h2 : es.length < 4294967296) (hT : Tab w) :
    Calls Tryd.prog 33 #[.agg #[.bool n.leaf, .slice a1 k1 c1, .slice a2 k2 c2, .slice a3 k3 c3], .string ⟨es.toArray⟩] w fun e w' => e = .returned (hdV n.kd k1 es) ∧ Same w w' := by
  cases hl : n.leaf
  · have h := headOf_inner n a1 a2 a3 k1 c1 k2 c2 k3 c3 es w hl h1 h2 hT
    rw [hl] at h
    have e : n.kd = 2 := by unfold Nd.kd; rw [hl]; rfl
    rw [e]
    exact h
  · have h := headOf_leaf n a1 a2 a3 k1 c1 k2 c2 k3 c3 es w hl h1 h2 hT
    rw [hl] at h
    have e : n.kd = 1 := by unfold Nd.kd; rw [hl]; rfl
    rw [e]
    exact h
def JSize (n : Int) : Prop := 512 ≤ n ∧ n ≤ 4096 ∧ Pow n
instance (n : Int) : Decidable (JSize n) := by unfold JSize; infer_instance
set_option maxHeartbeats 1000000 in
set_option maxRecDepth 100000 in
theorem maySize_any (n : Int) (w : World) : Calls Tryd.prog 31 #[.int .i64 n] w fun e w' => e = .returned (.bool (decide (JSize n))) ∧ w = w' := by
  by_cases h0 : 512 ≤ n
  · by_cases h1 : n ≤ 4096
    · have hb : (bits .and .i64 n (n - 1) == 0) = decide (JSize n) := by
        have h := pow_land n (by omega) (by omega)
        rw [Bool.eq_iff_iff, beq_iff_eq, h, decide_eq_true_eq]
        unfold JSize
        simp [h0, h1]
      generalize decide (JSize n) = d at hb ⊢
      go_enter Tryd.func31, Tryd.ntmps31
      go_wp2
      go_returns
      exact ⟨rfl, rfl⟩
    · have hd : decide (JSize n) = false := by unfold JSize; simp [h1]
      rw [hd]
      go_enter Tryd.func31, Tryd.ntmps31
      go_wp2
      go_returns
      exact ⟨rfl, rfl⟩
  · have hd : decide (JSize n) = false := by unfold JSize; simp [h0]
    rw [hd]
    go_enter Tryd.func31, Tryd.ntmps31
    go_wp2
    go_returns
    exact ⟨rfl, rfl⟩
set_option maxHeartbeats 1000000 in
set_option maxRecDepth 100000 in
theorem power_any (n : Int) (w : World) : Calls Tryd.prog 35 #[.int .i64 n] w fun e w' => e = .returned (.bool (decide (JSize n))) ∧ w = w' := by
  have hd : decide (JSize n) = (decide (n = 512) || decide (n = 1024) || decide (n = 2048) || decide (n = 4096)) := by
    rw [Bool.eq_iff_iff, decide_eq_true_eq]
    simp only [Bool.or_eq_true, decide_eq_true_eq]
    unfold JSize Pow
    omega
  rw [hd]
  by_cases h1 : n = 512
  · subst h1
    go_enter Tryd.func35, Tryd.ntmps35
    go_wp2
    go_returns
    exact ⟨rfl, rfl⟩
  · by_cases h2 : n = 1024
    · subst h2
      go_enter Tryd.func35, Tryd.ntmps35
      go_wp2
      go_returns
      exact ⟨rfl, rfl⟩
    · by_cases h3 : n = 2048
      · subst h3
        go_enter Tryd.func35, Tryd.ntmps35
        go_wp2
        go_returns
        exact ⟨rfl, rfl⟩
      · by_cases h4 : n = 4096
        · subst h4
          go_enter Tryd.func35, Tryd.ntmps35
          go_wp2
          go_returns
          exact ⟨rfl, rfl⟩
        · have q1 : (n == 512) = false := by simpa using h1
          have q2 : (n == 1024) = false := by simpa using h2
          have q3 : (n == 2048) = false := by simpa using h3
          have q4 : (n == 4096) = false := by simpa using h4
          have e : (decide (n = 512) || decide (n = 1024) || decide (n = 2048) || decide (n = 4096)) = false := by simp [h1, h2, h3, h4]
          rw [e]
          go_enter Tryd.func35, Tryd.ntmps35
          go_wp2
          go_returns
          exact ⟨rfl, rfl⟩
end Go.Proofs.YtpjgghalnkfdkaaDoor
namespace Go.Proofs.YtpjgghalnkfdkaaDoor
open Go.RowKit
set_option linter.unusedVariables false
set_option linter.unusedSimpArgs false
theorem entI_step (ks : List ByteArray) (zs : List Int) (h : ks.length = zs.length) {i : Nat} (hi : i < ks.length) : entI (ks.take (i + 1)) (zs.take (i + 1)) = entI (ks.take i) (zs.take i) ++ entI1 ks[i] (zs[i]'(by omega)) := by
  have e : ∀ j, (ks.take j).zip (zs.take j) = (ks.zip zs).take j := fun j => by simp [List.zip, List.take_zipWith]
  unfold entI
  rw [e, e, List.take_add_one, List.flatMap_append, List.getElem?_eq_getElem (by rw [List.length_zip]; omega)]
  simp
theorem entI_le (ks : List ByteArray) (zs : List Int) (i : Nat) : (entI (ks.take i) (zs.take i)).length ≤ (entI ks zs).length := by
  have e : ∀ j, (ks.take j).zip (zs.take j) = (ks.zip zs).take j := fun j => by simp [List.zip, List.take_zipWith]
  unfold entI
  rw [e]
  conv => rhs; rw [← List.take_append_drop i (ks.zip zs)]
  rw [List.flatMap_append, List.length_append]
  omega
set_option maxHeartbeats 4000000 in
set_option maxRecDepth 100000 in
theorem entriesOf_inner (n : Nd) (a1 a2 a3 : Option Addr) (k1 c1 k2 c2 k3 c3 : Nat) (sz : Nat) (z0 : Int) (zs : List Int) (w : World) (r1 : Row w (.slice a1 k1 c1) (TS n.keys)) (r2 : Row w (.slice a2 k2 c2) (TS n.vals)) (r3 : Row w (.slice a3 k3 c3) (IS n.kids)) (hl : n.leaf = false) (hb : n.Bd) (hkz : n.kids = z0 :: zs) (hzl : zs.length = n.keys.length) (hz : ∀ z ∈ n.kids, 0 ≤ z ∧ z < 4294967296) (hk : n.keys.all mayK = true) (hs : sz ≤ 4096) (hs0 : 16 ≤ sz) (hfit : (be 4 z0.toNat ++ entI n.keys zs).length + 16 ≤ sz) :
    Calls Tryd.prog 32 #[.int .i64 (sz : Nat), .agg #[.bool n.leaf, .slice a1 k1 c1, .slice a2 k2 c2, .slice a3 k3 c3]] w fun e w' => e = .returned (.string ⟨(be 4 z0.toNat ++ entI n.keys zs).toArray⟩) ∧ Same w w' := by
  rw [hl]
  have hbk : k1 ≤ 17592186044416 := by have := hb.k; rw [r1.tl] at this; exact this
  have HW := hidden (same_alloc w (.cells #[.bool false, .slice a1 k1 c1, .slice a2 k2 c2, .slice a3 k3 c3] 25))
  have HR1 := hidden r1
  have HR3 := hidden r3
  have E1 := hidden r1.tl
  have E3 := hidden r3.il
  have HKA := hidden hk
  have hkl : n.kids.length = n.keys.length + 1 := by rw [hkz]; simp [hzl]
  have HKL := hidden hkl
  have HZL := hidden hzl
  have HKZ := hidden hkz
  have HZ := hidden hz
  have HFT := hidden hfit
  have q0 : (sz : Int) - 16 = ((sz - 16 : Nat) : Int) := by omega
  obtain ⟨hz0, hz1⟩ := hz z0 (by rw [hkz]; simp)
  have hp3 : 0 < n.kids.length := by omega
  obtain ⟨b3, o3, ha3, hc3⟩ := r3.int hp3
  have hg0 : n.kids[0] = z0 := by simp [hkz]
  rw [hg0, Nat.add_zero] at hc3
  subst ha3
  have HC3 := hidden hc3
  have hk3 : 0 < k3 := by have := r3.il; omega
  clear hl hb hkz hk hfit r1 r2 r3 hz hkl hzl hg0 hc3
  obtain ⟨m, hm⟩ : ∃ m, sz - 16 = m := ⟨_, rfl⟩
  have HM : Hid ((be 4 z0.toNat ++ entI n.keys zs).length ≤ m ∧ m ≤ 4096) := by have := HFT.out; exact ⟨by omega, by omega⟩
  rw [hm] at q0
  have hm9 : m ≤ 4096 := by omega
  have qw : wrap64 (m : Int) = (m : Int) := IntWalk.wrap64_in _ ⟨by omega, by omega⟩
  have hm4 : 4 ≤ m := by have := HM.out.1; rw [List.length_append, be_length] at this; omega
  have q3 : (0 : Int) < (k3 : Int) := by omega
  obtain ⟨zn, rfl⟩ := Int.eq_ofNat_of_zero_le hz0
  rw [Int.toNat_natCast] at HM HFT ⊢
  have qz : IntKind.u32.wrap (zn : Int) = (zn : Int) := by simp [IntKind.wrap, IntKind.signed, IntKind.bits]; omega
  have g0 : ∀ W, WS (w.heap.size + 1) (w.heap.size + 1) (m : Int) ([], false) W → Calls Tryd.prog 59 #[.pointer (some ⟨w.heap.size + 1, 0, none⟩), .int .u32 (zn : Nat)] W fun e w' => e = .returned (.tuple #[]) ∧ WS (w.heap.size + 1) (w.heap.size + 1) (m : Int) (be 4 zn, false) w' ∧ Kept (wrS (w.heap.size + 1) (w.heap.size + 1)) W w' := fun W h => by
    have := fitU32 h zn (by omega) (by first | omega | (simp; done) | (simp; omega)) (by first | omega | (simp; done) | (simp; omega))
    rwa [List.nil_append] at this
  have G0 := hidden g0
  clear hm hs hs0 HFT g0
  go_enter Tryd.func32, Tryd.ntmps32
  go_wp2_with (first
    | (go_at_call 58; refine (newW (m : Int) _ (by omega) (by omega)).mono ?_; rintro e w1 ⟨rfl, s1, k1', z1⟩; replace s1 : WS (w.heap.size + 1) (w.heap.size + 1) (m : Int) ([], false) w1 := (by simpa using s1); have b1 := blk_kept k1' (fun h => h) (blk_new w (.cells #[.bool false, .slice a1 k1 c1, .slice a2 k2 c2, .slice (some ⟨b3, o3, none⟩) k3 c3] 25)); have x0 : w1.cell? ⟨w.heap.size, 0, none⟩ = some (.bool false) := blk_cell b1; have x1 : w1.cell? ⟨w.heap.size, 1, none⟩ = some (.slice a1 k1 c1) := blk_cell b1; have x3 : w1.cell? ⟨w.heap.size, 3, none⟩ = some (.slice (some ⟨b3, o3, none⟩) k3 c3) := blk_cell b1; have S1 := hidden s1; have B1 := hidden b1; have K1 := hidden (HW.out.trans k1'); have y3 : w1.cell? ⟨b3, o3, none⟩ = some (.int .i64 (zn : Int)) := K1.out.cell (p := ⟨b3, o3, none⟩) (fun h => h) HC3.out; clear s1 k1' z1 b1)
    | (go_at_call 59; refine (G0.out _ S1.out).mono ?_; rintro e w2 ⟨rfl, s2, k2'⟩; have S2 := hidden s2; have K2 := hidden (Same.wr K1.out k2' (by omega) (by omega)); have b2 := blk_kept k2' (fun h => by rcases h with h | h <;> omega) B1.out; have x0 : w2.cell? ⟨w.heap.size, 0, none⟩ = some (.bool false) := blk_cell b2; have x1 : w2.cell? ⟨w.heap.size, 1, none⟩ = some (.slice a1 k1 c1) := blk_cell b2; have B2 := hidden b2; clear s2 k2' b2))
  go_loopw [26] (fun i wr => ∃ i' : Nat, i = .int .i64 i' ∧ i' ≤ k1 ∧ WS (w.heap.size + 1) (w.heap.size + 1) (m : Int) (be 4 zn ++ entI (n.keys.take i') (zs.take i'), false) wr ∧ wr.heap[w.heap.size]? = some (.cells #[.bool false, .slice a1 k1 c1, .slice a2 k2 c2, .slice (some ⟨b3, o3, none⟩) k3 c3] 25 (0, 0)) ∧ Same w wr) (fun i _ => k1 - (intOf i).toNat)
  case atStart => exact ⟨0, rfl, Nat.zero_le _, by simpa [entI] using S2.out, B2.out, K2.out⟩
  case round =>
    obtain ⟨i, rfl, hi, hws, hbx, hsm⟩ := hrel
    have HWS := hidden hws
    have HBX := hidden hbx
    have HSM := hidden hsm
    clear hws hbx hsm x0 x1
    by_cases h1 : i < k1
    · have hil : i < n.keys.length := by rw [E1.out]; exact h1
      have hiz : i < zs.length := by rw [HZL.out]; exact hil
      have hi3 : i + 1 < n.kids.length := by rw [HKL.out]; omega
      have hi2 : (i : Int) + 1 < (k3 : Int) := by have := E3.out; omega
      have hi0 : (0 : Int) ≤ (i : Int) + 1 := by omega
      obtain ⟨b, off, ha, hc⟩ := (HR1.out.same HSM.out).text hil
      have hc' := HR3.out.intAt hi3
      have hg : n.kids[i + 1] = zs[i] := by simp [HKZ.out]
      rw [hg] at hc'
      subst ha
      have hzr := HZ.out zs[i] (by rw [HKZ.out]; exact List.mem_cons_of_mem _ (List.getElem_mem _))
      have hst := entI_step n.keys zs HZL.out.symm hil
      have hle := entI_le n.keys zs (i + 1)
      have hm1 := HM.out.1
      rw [List.length_append, be_length] at hm1
      rw [hst, List.length_append] at hle
      have hle1 : (entI1 n.keys[i] zs[i]).length = 5 + n.keys[i].size := by simp [entI1, be_length, size_list]; omega
      rw [hle1] at hle
      have hkx := List.all_eq_true.1 HKA.out _ (List.getElem_mem hil)
      obtain ⟨x, hx⟩ : ∃ x, n.keys[i] = x := ⟨_, rfl⟩
      obtain ⟨y, hy⟩ : ∃ y, zs[i] = y := ⟨_, rfl⟩
      rw [hx] at hc hst hle hkx
      rw [hy] at hc' hst hzr
      obtain ⟨yn, rfl⟩ := Int.eq_ofNat_of_zero_le hzr.1
      have hx64 : x.size ≤ 64 := by simp [mayK] at hkx; omega
      obtain ⟨E0, hE0⟩ : ∃ E, entI (n.keys.take i) (zs.take i) = E := ⟨_, rfl⟩
      rw [hE0] at hst hle HWS
      obtain ⟨E, hE⟩ : ∃ E, be 4 zn ++ E0 = E := ⟨_, rfl⟩
      have hEl : E.length = 4 + E0.length := by rw [← hE, List.length_append, be_length]
      rw [hE] at HWS
      have hm2 := HM.out.2
      have lE1 : (E ++ be 1 x.size).length = E.length + 1 := by simp [be_length]
      have lE3 : ((E ++ be 1 x.size) ++ x.data.toList).length = E.length + 1 + x.size := by rw [List.length_append, lE1, size_list]
      have g1 : ∀ W, WS (w.heap.size + 1) (w.heap.size + 1) (m : Int) (E, false) W → Calls Tryd.prog 60 #[.pointer (some ⟨w.heap.size + 1, 0, none⟩), .int .u8 (x.size : Nat)] W fun e w' => e = .returned (.tuple #[]) ∧ WS (w.heap.size + 1) (w.heap.size + 1) (m : Int) (E ++ be 1 x.size, false) w' ∧ Kept (wrS (w.heap.size + 1) (w.heap.size + 1)) W w' := fun W h => fitU8 h x.size (by omega) (by omega) (by omega)
      have g3 : ∀ W, WS (w.heap.size + 1) (w.heap.size + 1) (m : Int) (E ++ be 1 x.size, false) W → Calls Tryd.prog 61 #[.pointer (some ⟨w.heap.size + 1, 0, none⟩), .string x] W fun e w' => e = .returned (.tuple #[]) ∧ WS (w.heap.size + 1) (w.heap.size + 1) (m : Int) ((E ++ be 1 x.size) ++ x.data.toList, false) w' ∧ Kept (wrS (w.heap.size + 1) (w.heap.size + 1)) W w' := fun W h => fitRaw h x (by omega) (by omega)
      have g4 : ∀ W, WS (w.heap.size + 1) (w.heap.size + 1) (m : Int) ((E ++ be 1 x.size) ++ x.data.toList, false) W → Calls Tryd.prog 59 #[.pointer (some ⟨w.heap.size + 1, 0, none⟩), .int .u32 (yn : Nat)] W fun e w' => e = .returned (.tuple #[]) ∧ WS (w.heap.size + 1) (w.heap.size + 1) (m : Int) (((E ++ be 1 x.size) ++ x.data.toList) ++ be 4 yn, false) w' ∧ Kept (wrS (w.heap.size + 1) (w.heap.size + 1)) W w' := fun W h => fitU32 h yn (by omega) (by omega) (by omega)
      have hfin : Hid (be 4 zn ++ entI (n.keys.take (i + 1)) (zs.take (i + 1)) = ((E ++ be 1 x.size) ++ x.data.toList) ++ be 4 yn) := by rw [Hid, hst, ← hE]; simp [entI1]
      have qx : IntKind.u8.wrap (x.size : Int) = (x.size : Int) := by simp [IntKind.wrap, IntKind.signed, IntKind.bits]; omega
      have qy : IntKind.u32.wrap (yn : Int) = (yn : Int) := by simp [IntKind.wrap, IntKind.signed, IntKind.bits]; omega
      have HC' := hidden hc'
      clear lE1 lE3 hst hle hkx hx hy hE hc' hle1 hEl hE0 hg hm1 hm2 hzr
      generalize ((E ++ be 1 x.size) ++ x.data.toList) ++ be 4 yn = E4 at *
      generalize (E ++ be 1 x.size) ++ x.data.toList = E3' at *
      generalize E ++ be 1 x.size = E1' at *
      have G1 := hidden g1
      have G3 := hidden g3
      have G4 := hidden g4
      have x0 : wr.cell? ⟨w.heap.size, 0, none⟩ = some (.bool false) := blk_cell HBX.out
      have q1 : (i : Int) < (k1 : Int) := by omega
      have t1 : True := trivial
      clear g1 g3 g4
      go_wp2_with (first
        | (go_at_call 60; have _t := t1; refine (G1.out _ HWS.out).mono ?_; rintro e w2 ⟨rfl, s2, kk2⟩; clear t1; have S2 := hidden s2; have M2 := hidden (Same.wr HSM.out kk2 (by omega) (by omega)); have b2 := blk_kept kk2 (fun h => by rcases h with h | h <;> omega) HBX.out; have X2 := hidden b2; have y2_0 : w2.cell? ⟨w.heap.size, 0, none⟩ = some (.bool false) := blk_cell b2; clear s2 kk2 b2)
        | (go_at_call 61; refine (G3.out _ S2.out).mono ?_; rintro e w4 ⟨rfl, s4, kk4⟩; have S4 := hidden s4; have M4 := hidden (Same.wr M2.out kk4 (by omega) (by omega)); have b4 := blk_kept kk4 (fun h => by rcases h with h | h <;> omega) X2.out; have X4 := hidden b4; have y4_3 : w4.cell? ⟨w.heap.size, 3, none⟩ = some (.slice (some ⟨b3, o3, none⟩) k3 c3) := blk_cell b4; have v4 := M4.out.cell (p := ⟨b3, o3 + (i + 1), none⟩) (fun h => h) HC'.out; clear s4 kk4 b4)
        | (go_at_call 59; refine (G4.out _ S4.out).mono ?_; rintro e w5 ⟨rfl, s5, kk5⟩; have S5 := hidden s5; have M5 := hidden (Same.wr M4.out kk5 (by omega) (by omega)); have b5 := blk_kept kk5 (fun h => by rcases h with h | h <;> omega) X4.out; have X5 := hidden b5; clear s5 kk5 b5))
      go_roundw
      case rel => exact ⟨i + 1, by go_num, by omega, by rw [hfin.out]; exact S5.out, X5.out, M5.out⟩
      case measure => simp [intOf]; omega
    · obtain rfl : i = k1 := by omega
      have hfin : Hid (be 4 zn ++ entI (n.keys.take i) (zs.take i) = be 4 zn ++ entI n.keys zs) := by
        rw [Hid]
        have e1 : n.keys.take i = n.keys := by rw [← E1.out, List.take_length]
        have e2 : zs.take i = zs := by rw [← E1.out, ← HZL.out, List.take_length]
        rw [e1, e2]
      rw [hfin.out] at HWS
      have q1 : ¬ (i : Int) < (i : Int) := by omega
      go_wp2_with (go_at_call 62; refine (fitDone HWS.out).mono ?_; rintro e w8 ⟨rfl, rfl⟩)
      go_returns
      exact ⟨rfl, HSM.out⟩
theorem entriesOf_any (n : Nd) (a1 a2 a3 : Option Addr) (k1 c1 k2 c2 k3 c3 : Nat) (sz : Nat) (w : World) (r1 : Row w (.slice a1 k1 c1) (TS n.keys)) (r2 : Row w (.slice a2 k2 c2) (TS n.vals)) (r3 : Row w (.slice a3 k3 c3) (IS n.kids)) (hb : n.Bd) (hF : n.Fine) (hs : sz ≤ 4096) (hs0 : 16 ≤ sz) (hfit : 16 + n.body.length ≤ sz) :
    Calls Tryd.prog 32 #[.int .i64 (sz : Nat), .agg #[.bool n.leaf, .slice a1 k1 c1, .slice a2 k2 c2, .slice a3 k3 c3]] w fun e w' => e = .returned (.string ⟨n.body.toArray⟩) ∧ Same w w' := by
  have hk : n.keys.all mayK = true := List.all_eq_true.2 fun x hx => by
    obtain ⟨i, hi, rfl⟩ := List.getElem_of_mem hx
    simpa [mayK] using hF.k i hi
  have hv : n.vals.all mayV = true := List.all_eq_true.2 fun x hx => by
    obtain ⟨i, hi, rfl⟩ := List.getElem_of_mem hx
    simpa [mayV] using hF.v i hi
  cases hl : n.leaf
  · obtain ⟨e1, e2⟩ := hF.inner hl
    obtain ⟨z0, zs, hz⟩ : ∃ z0 zs, n.kids = z0 :: zs := by
      cases h : n.kids with
      | nil => rw [h] at e2; simp at e2
      | cons a b => exact ⟨a, b, rfl⟩
    have eb : n.body = be 4 z0.toNat ++ entI n.keys zs := by unfold Nd.body; rw [hl, hz]; rfl
    have h := entriesOf_inner n a1 a2 a3 k1 c1 k2 c2 k3 c3 sz z0 zs w r1 r2 r3 hl hb hz (by rw [hz] at e2; simpa using e2) (fine_kids hF) hk hs hs0 (by rw [← eb]; omega)
    rw [hl] at h
    rw [eb]
    exact h
  · obtain ⟨e1, e2⟩ := hF.leaf hl
    have eb : n.body = entL n.keys n.vals := by unfold Nd.body; rw [hl]; rfl
    have h := entriesOf_leaf n a1 a2 a3 k1 c1 k2 c2 k3 c3 sz w r1 r2 r3 hl hb e1 hk hv hs hs0 (by rw [← eb]; omega)
    rw [hl] at h
    rw [eb]
    exact h
end Go.Proofs.YtpjgghalnkfdkaaDoor
namespace Go.Proofs.YtpjgghalnkfdkaaDoor
open Go.RowKit
set_option linter.unusedVariables false
set_option linter.unusedSimpArgs false
/-- A node as a value, its rows wherever. -/
structure NdR (w : World) (u : Value) (n : Nd) : Prop where
  ex : ∃ a1 a2 a3 c1 c2 c3, u = .agg #[.bool n.leaf, .slice a1 n.keys.length c1, .slice a2 n.vals.length c2, .slice a3 n.kids.length c3] ∧ Row w (.slice a1 n.keys.length c1) (TS n.keys) ∧ Row w (.slice a2 n.vals.length c2) (TS n.vals) ∧ Row w (.slice a3 n.kids.length c3) (IS n.kids)
theorem NdR.same {w w' : World} {u : Value} {n : Nd} (h : NdR w u n) (k : Same w w') : NdR w' u n := by
  obtain ⟨a1, a2, a3, c1, c2, c3, h0, h1, h2, h3⟩ := h.ex
  exact ⟨a1, a2, a3, c1, c2, c3, h0, h1.same k, h2.same k, h3.same k⟩
set_option maxHeartbeats 1000000 in
set_option maxRecDepth 100000 in
theorem refEntry_any (n : Nd) (a1 a2 a3 : Option Addr) (k1 c1 k2 c2 k3 c3 : Nat) (i : Nat) (w : World) (r1 : Row w (.slice a1 k1 c1) (TS n.keys)) (r2 : Row w (.slice a2 k2 c2) (TS n.vals)) (r3 : Row w (.slice a3 k3 c3) (IS n.kids)) (hF : n.Fine) (hi : i < n.keys.length) :
    Calls Tryd.prog 42 #[.agg #[.bool n.leaf, .slice a1 k1 c1, .slice a2 k2 c2, .slice a3 k3 c3], .int .i64 i] w fun e w' => e = .returned (.int .i64 (n.es i : Nat)) ∧ Same w w' := by
  have e1 := r1.tl
  obtain ⟨b, off, rfl, hc⟩ := r1.text hi
  have hk := hF.k i hi
  have hk1 : (i : Int) < k1 := by omega
  have hb0 : b < w.heap.size := World.block_lt_of_cell? w _ hc
  cases hl : n.leaf
  · have hes : n.es i = 5 + n.keys[i].size := by unfold Nd.es; rw [hl, getD_at hi]; rfl
    rw [hes]
    generalize n.keys[i] = kk at *
    clear hes r1 r2 r3
    go_enter Tryd.func42, Tryd.ntmps42
    go_wp2
    go_ret
    exact ⟨by simp; omega, same_alloc _ _⟩
  · have hvl := (hF.leaf hl).1
    have hiv : i < n.vals.length := by omega
    obtain ⟨b2, off2, rfl, hc2⟩ := r2.text hiv
    have hv := hF.v i hiv
    have e2 := r2.tl
    have hk2 : (i : Int) < k2 := by omega
    have hb2 : b2 < w.heap.size := World.block_lt_of_cell? w _ hc2
    have hes : n.es i = 2 + n.keys[i].size + n.vals[i].size := by unfold Nd.es; rw [hl, getD_at hi, getD_at hiv]; rfl
    rw [hes]
    generalize n.keys[i] = kk at *
    generalize n.vals[i] = vv at *
    clear hes r1 r2 r3
    go_enter Tryd.func42, Tryd.ntmps42
    go_wp2
    go_ret
    exact ⟨by simp, same_alloc _ _⟩
def Nd.base (n : Nd) : Nat := if n.leaf then 16 else 20
set_option maxHeartbeats 2000000 in
set_option maxRecDepth 100000 in
theorem refSize_any (n : Nd) (a1 a2 a3 : Option Addr) (k1 c1 k2 c2 k3 c3 : Nat) (w : World) (r1 : Row w (.slice a1 k1 c1) (TS n.keys)) (r2 : Row w (.slice a2 k2 c2) (TS n.vals)) (r3 : Row w (.slice a3 k3 c3) (IS n.kids)) (hF : n.Fine) (hbd : n.keys.length ≤ 8796093022208) :
    Calls Tryd.prog 16 #[.agg #[.bool n.leaf, .slice a1 k1 c1, .slice a2 k2 c2, .slice a3 k3 c3]] w fun e w' => e = .returned (.int .i64 (n.base + n.pre n.keys.length : Nat)) ∧ Same w w' := by
  have e1 := r1.tl
  have HE := hidden (fun W (k : Same w W) j hj => refEntry_any n a1 a2 a3 k1 c1 k2 c2 k3 c3 j W (r1.same k) (r2.same k) (r3.same k) hF hj)
  have HP := hidden hF.pre_le
  have E1 := hidden e1
  rw [e1] at hbd
  cases hl : n.leaf
  all_goals
    rw [hl] at HE
    have hBase : n.base = if n.leaf then 16 else 20 := rfl
    rw [hl] at hBase
    simp only [Bool.false_eq_true, if_false, if_true] at hBase
    have K0 := hidden (same_alloc w (.cells #[.bool n.leaf, .slice a1 k1 c1, .slice a2 k2 c2, .slice a3 k3 c3] 25))
    have BX : Hid (∀ W, Same (w.alloc (.cells #[.bool n.leaf, .slice a1 k1 c1, .slice a2 k2 c2, .slice a3 k3 c3] 25)) W → W.cell? ⟨w.heap.size, 0, none⟩ = some (.bool n.leaf) ∧ W.cell? ⟨w.heap.size, 1, none⟩ = some (.slice a1 k1 c1) ∧ W.cell? ⟨w.heap.size, 2, none⟩ = some (.slice a2 k2 c2) ∧ W.cell? ⟨w.heap.size, 3, none⟩ = some (.slice a3 k3 c3)) := hidden (fun W k => ⟨box_cell 0 k rfl, box_cell 1 k rfl, box_cell 2 k rfl, box_cell 3 k rfl⟩)
    rw [hl] at K0 BX
    have HB := hidden hBase
    clear r1 r2 r3 hF hBase
  · go_enter Tryd.func16, Tryd.ntmps16
    go_wp2
    go_loopw [3, 4] (fun s i wr => ∃ k : Nat, k ≤ k1 ∧ i = .int .i64 k ∧ s = .int .i64 (20 + (n.pre k : Nat)) ∧ Same (w.alloc (.cells #[.bool false, .slice a1 k1 c1, .slice a2 k2 c2, .slice a3 k3 c3] 25)) wr) (fun _ i _ => k1 - (intOf i).toNat)
    case atStart => exact ⟨0, Nat.zero_le _, rfl, rfl, Kept.refl _ _⟩
    case round =>
      obtain ⟨k, hk, rfl, rfl, hs⟩ := hrel
      have S1 := hidden hs
      obtain ⟨z0, z1, z2, z3⟩ := BX.out wr hs
      clear hs
      by_cases hlt : k < k1
      · have hp1 := HP.out k (by rw [E1.out]; omega)
        have hp2 := HP.out (k + 1) (by rw [E1.out]; omega)
        have hps : n.pre (k + 1) = n.pre k + n.es k := rfl
        have HPS := hidden hps
        have hes : n.es k ≤ 130 * (k + 1) := by omega
        clear hps
        go_wp2_with (first
          | (go_at_call 42; refine (HE.out _ (K0.out.trans S1.out) k (by rw [E1.out]; exact hlt)).mono ?_; rintro e w2 ⟨rfl, q2⟩; have S2 := hidden (S1.out.trans q2); clear q2))
        go_roundw
        case rel => exact ⟨k + 1, by omega, by go_num, by rw [HPS.out]; go_num, S2.out⟩
        case measure => simp [intOf]; omega
      · obtain rfl : k1 = k := by omega
        go_wp2
        go_ret
        refine ⟨?_, K0.out.trans S1.out⟩
        rw [HB.out, E1.out]
        simp
  · go_enter Tryd.func16, Tryd.ntmps16
    go_wp2
    go_loopw [3, 4] (fun s i wr => ∃ k : Nat, k ≤ k1 ∧ i = .int .i64 k ∧ s = .int .i64 (16 + (n.pre k : Nat)) ∧ Same (w.alloc (.cells #[.bool true, .slice a1 k1 c1, .slice a2 k2 c2, .slice a3 k3 c3] 25)) wr) (fun _ i _ => k1 - (intOf i).toNat)
    case atStart => exact ⟨0, Nat.zero_le _, rfl, rfl, Kept.refl _ _⟩
    case round =>
      obtain ⟨k, hk, rfl, rfl, hs⟩ := hrel
      have S1 := hidden hs
      obtain ⟨z0, z1, z2, z3⟩ := BX.out wr hs
      clear hs
      by_cases hlt : k < k1
      · have hp1 := HP.out k (by rw [E1.out]; omega)
        have hp2 := HP.out (k + 1) (by rw [E1.out]; omega)
        have hps : n.pre (k + 1) = n.pre k + n.es k := rfl
        have HPS := hidden hps
        have hes : n.es k ≤ 130 * (k + 1) := by omega
        clear hps
        go_wp2_with (first
          | (go_at_call 42; refine (HE.out _ (K0.out.trans S1.out) k (by rw [E1.out]; exact hlt)).mono ?_; rintro e w2 ⟨rfl, q2⟩; have S2 := hidden (S1.out.trans q2); clear q2))
        go_roundw
        case rel => exact ⟨k + 1, by omega, by go_num, by rw [HPS.out]; go_num, S2.out⟩
        case measure => simp [intOf]; omega
      · obtain rfl : k1 = k := by omega
        go_wp2
        go_ret
        refine ⟨?_, K0.out.trans S1.out⟩
        rw [HB.out, E1.out]
        simp
theorem sum_takeS (l : List ByteArray) (f : ByteArray → Nat) {i : Nat} (h : i < l.length) : ((l.take (i + 1)).map f).sum = ((l.take i).map f).sum + f (l.getD i ⟨#[]⟩) := by
  rw [getD_at h]; exact sum_step l f h
theorem Nd.pre_leaf {n : Nd} (hl : n.leaf = true) (hv : n.vals.length = n.keys.length) : ∀ k, k ≤ n.keys.length → n.pre k = ((n.keys.take k).map fun x => 2 + x.size).sum + ((n.vals.take k).map fun x => x.size).sum
  | 0, _ => by simp [Nd.pre]
  | k + 1, h => by
    have h1 := Nd.pre_leaf hl hv k (by omega)
    rw [sum_takeS _ _ (by omega), sum_takeS _ _ (by omega)]
    have h2 : n.pre (k + 1) = n.pre k + n.es k := rfl
    have h3 : n.es k = 2 + (n.keys.getD k ⟨#[]⟩).size + (n.vals.getD k ⟨#[]⟩).size := by unfold Nd.es; rw [hl]; rfl
    omega
theorem Nd.pre_inner {n : Nd} (hl : n.leaf = false) : ∀ k, k ≤ n.keys.length → n.pre k = ((n.keys.take k).map fun x => 5 + x.size).sum
  | 0, _ => by simp [Nd.pre]
  | k + 1, h => by
    have h1 := Nd.pre_inner hl k (by omega)
    rw [sum_takeS _ _ (by omega)]
    have h2 : n.pre (k + 1) = n.pre k + n.es k := rfl
    have h3 : n.es k = 5 + (n.keys.getD k ⟨#[]⟩).size := by unfold Nd.es; rw [hl]; rfl
    omega
theorem Nd.pre_all_leaf {n : Nd} (h : n.Fine) (hl : n.leaf = true) : n.pre n.keys.length = (n.keys.map fun x => 2 + x.size).sum + (n.vals.map fun x => x.size).sum := by
  have hv := (h.leaf hl).1
  rw [Nd.pre_leaf hl hv _ (Nat.le_refl _), List.take_of_length_le (Nat.le_refl _), List.take_of_length_le (by omega)]
theorem Nd.pre_all_inner {n : Nd} (h : n.Fine) (hl : n.leaf = false) : n.pre n.keys.length = (n.keys.map fun x => 5 + x.size).sum + (n.vals.map fun x => x.size).sum := by
  have hv := (h.inner hl).1
  rw [Nd.pre_inner hl _ (Nat.le_refl _), List.take_of_length_le (Nat.le_refl _), hv]
  simp
theorem nsize_any (n : Nd) (u : Value) (w : World) (q : NdR w u n) (hF : n.Fine) (hb : n.Bd) (hbd : n.keys.length ≤ 8796093022208) :
    Calls Tryd.prog 15 #[u] w fun e w' => e = .returned (.int .i64 (n.base + n.pre n.keys.length : Nat)) ∧ Same w w' := by
  obtain ⟨a1, a2, a3, c1, c2, c3, rfl, r1, r2, r3⟩ := q.ex
  have hp := hF.pre_le n.keys.length (Nat.le_refl _)
  cases hl : n.leaf
  · have e := Nd.pre_all_inner hF hl
    have h := size_inner n a1 a2 a3 _ c1 _ c2 _ c3 w r1 r2 r3 hl hb (by omega)
    rw [hl] at h
    rw [show n.base + n.pre n.keys.length = 20 + (n.keys.map fun k => 5 + k.size).sum + (n.vals.map fun v => v.size).sum by unfold Nd.base; rw [hl, e]; simp; omega]
    exact h
  · have e := Nd.pre_all_leaf hF hl
    have h := size_leaf n a1 a2 a3 _ c1 _ c2 _ c3 w r1 r2 r3 hl hb (by omega)
    rw [hl] at h
    rw [show n.base + n.pre n.keys.length = 16 + (n.keys.map fun k => 2 + k.size).sum + (n.vals.map fun v => v.size).sum by unfold Nd.base; rw [hl, e]; simp; omega]
    exact h
theorem same_ndr (n : Nd) (u v : Value) (w : World) (q : NdR w u n) (p : NdR w v n) (hb : n.Bd) :
    Calls Tryd.prog 17 #[u, v] w fun e w' => e = .returned (.bool true) ∧ Same w w' := by
  obtain ⟨a1, a2, a3, c1, c2, c3, rfl, r1, r2, r3⟩ := q.ex
  obtain ⟨b1, b2, b3, d1, d2, d3, rfl, s1, s2, s3⟩ := p.ex
  exact same_eq n a1 a2 a3 _ c1 _ c2 _ c3 b1 b2 b3 _ d1 _ d2 _ d3 w r1 r2 r3 s1 s2 s3 hb
end Go.Proofs.YtpjgghalnkfdkaaDoor
