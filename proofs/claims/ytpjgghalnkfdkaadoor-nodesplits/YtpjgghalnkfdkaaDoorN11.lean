/- node: Encode of a leaf that may be and fits. -/
import Derived.Test.YtpjgghalnkfdkaaDoorN10
namespace Go.Proofs.YtpjgghalnkfdkaaDoor
open Go.RowKit
set_option linter.unusedVariables false
set_option linter.unusedSimpArgs false
def Nd.encL (n : Nd) (sz : Nat) : List UInt8 :=
  headB 1 n.keys.length (entL n.keys n.vals).length (crc ((headB 1 n.keys.length (entL n.keys n.vals).length 0).take 12 ++ entL n.keys n.vals)) ++ (entL n.keys n.vals ++ List.replicate (sz - (16 + (entL n.keys n.vals).length)) 0)
structure EnP (sz : Nat) (L : List UInt8) (w : World) (u : Value) (W : World) : Prop where
  out : ∃ g, u = .tuple #[.slice (some ⟨g, 0, none⟩) sz sz, .int .i64 0] ∧ W.ownsRow w.heap.size 5 1 (.slice (some ⟨g, 0, none⟩) sz sz) sz (L.map U8) ∧ Same w W
theorem enc_list (H es : List UInt8) (sz : Nat) (h : H.length = 16) (hf : 16 + es.length ≤ sz) (C : Array Value) (hC : ((List.replicate sz (U8 0)).toArray.toList.take 0 ++ H.map U8 ++ (List.replicate sz (U8 0)).toArray.toList.drop (0 + H.length)).toArray = C) :
    ((C.toList.take 16 ++ es.map U8 ++ C.toList.drop (16 + es.length)).toArray.toList.take (sz * 1)) = (H ++ (es ++ List.replicate (sz - (16 + es.length)) 0)).map U8 := by
  have hm : (H.map U8).length = 16 := by rw [List.length_map, h]
  have e : C.toList = H.map U8 ++ List.replicate (sz - 16) (U8 0) := by
    rw [← hC, List.toList_toArray, List.toList_toArray, List.take_zero, List.nil_append, Nat.zero_add, h, List.drop_replicate]
  have e1 : C.toList.take 16 = H.map U8 := by rw [e, List.take_left' hm]
  have e2 : C.toList.drop (16 + es.length) = List.replicate (sz - (16 + es.length)) (U8 0) := by
    rw [e, List.drop_append, List.drop_of_length_le (by omega), List.nil_append, hm, List.drop_replicate]
    congr 1
    omega
  rw [e1, e2, List.toList_toArray, List.take_of_length_le (by simp only [List.length_append, List.length_map, List.length_replicate]; omega)]
  simp [List.map_append]
set_option maxRecDepth 100000 in
theorem slice16 (g n : Nat) (hn : 16 ≤ n) (W : World) (k : Nat) (hk : 16 + k = n) (hk0 : 0 < k) : (Instr.sliceAt 27 (.slice (some ⟨g, 0, none⟩) n n) (some (.int .i64 16)) none none).run Tryd.prog W = .ok (.slice (some ⟨g, 16, none⟩) k k) W := by
  rw [run_sliceAt_slice (h := Tryd.underlying27), run_slice_l (ht := Tryd.underlying27) (h0 := by omega) (h1 := by omega), size_byte]
  have e1 : n - 16 = k := by omega
  have e2 : ¬ n = 16 := by omega
  simp [sliced, e1, e2, add_none]
set_option maxHeartbeats 4000000 in
set_option maxRecDepth 100000 in
theorem encode_leaf (n : Nd) (a1 a2 a3 : Option Addr) (k1 c1 k2 c2 k3 c3 : Nat) (sz : Nat) (w : World) (r1 : Row w (.slice a1 k1 c1) (TS n.keys)) (r2 : Row w (.slice a2 k2 c2) (TS n.vals)) (r3 : Row w (.slice a3 k3 c3) (IS n.kids)) (hl : n.leaf = true) (hb : n.Bd) (hc : n.chk = 0) (hms : ∀ W, Calls Tryd.prog 31 #[.int .i64 (sz : Nat)] W fun e w' => e = .returned (.bool true) ∧ W = w') (hs : sz ≤ 4096) (hs0 : 512 ≤ sz) (hfit : n.size ≤ sz) (hT : Tab w) (hes : (entL n.keys n.vals).length + 16 = n.size) (hke : n.keys.length < 65536) (hka : n.keys.all mayK = true) (hva : n.vals.all mayV = true) :
    Calls Tryd.prog 9 #[.int .i64 (sz : Nat), .agg #[.bool n.leaf, .slice a1 k1 c1, .slice a2 k2 c2, .slice a3 k3 c3]] w fun e w' => ∃ u, e = .returned u ∧ EnP sz (n.encL sz) w u w' := by
  obtain ⟨i0, hi, hz0, hz1, hz2⟩ := info_parts info5
  have hsize : n.size = 16 + (n.keys.map fun k => 2 + k.size).sum + (n.vals.map fun v => v.size).sum := by unfold Nd.size; rw [hl]; rfl
  have HCk := hidden (fun W (k : Same w W) => check_any n a1 a2 a3 k1 c1 k2 c2 k3 c3 W (r1.same k) (r2.same k) (r3.same k) hb)
  have HSz := hidden (fun W (k : Same w W) => size_leaf n a1 a2 a3 k1 c1 k2 c2 k3 c3 W (r1.same k) (r2.same k) (r3.same k) hl hb (by omega))
  have HEn := hidden (fun W (k : Same w W) => entriesOf_leaf n a1 a2 a3 k1 c1 k2 c2 k3 c3 sz W (r1.same k) (r2.same k) (r3.same k) hl hb (Nd.chk_leaf hl hc).1 hka hva hs (by omega) (by omega))
  have HHd := hidden (fun W (k : Same w W) => headOf_leaf n a1 a2 a3 k1 c1 k2 c2 k3 c3 (entL n.keys n.vals) W hl (by rw [← r1.tl]; exact hke) (by omega) (hT.same k))
  have hcl := crc_lt ((headB 1 k1 (entL n.keys n.vals).length 0).take 12 ++ entL n.keys n.vals)
  have HTx := hidden (fun W => text_any 1 k1 (entL n.keys n.vals).length (crc ((headB 1 k1 (entL n.keys n.vals).length 0).take 12 ++ entL n.keys n.vals)) (by decide) (by rw [← r1.tl]; exact hke) (by omega) hcl W)
  have HMs := hidden hms
  have HL : Hid (n.encL sz = headB 1 k1 (entL n.keys n.vals).length (crc ((headB 1 k1 (entL n.keys n.vals).length 0).take 12 ++ entL n.keys n.vals)) ++ (entL n.keys n.vals ++ List.replicate (sz - (16 + (entL n.keys n.vals).length)) 0)) := by rw [Hid, Nd.encL, r1.tl]
  have hH16 := headB_len 1 k1 (entL n.keys n.vals).length (crc ((headB 1 k1 (entL n.keys n.vals).length 0).take 12 ++ entL n.keys n.vals))
  rw [← hsize, ← hes] at HSz
  rw [hc] at HCk
  have hesz : (entL n.keys n.vals).length + 16 ≤ sz := by omega
  have K0 : Hid (Same w (w.alloc (.cells #[.bool true, .slice a1 k1 c1, .slice a2 k2 c2, .slice a3 k3 c3] 25))) := hidden (same_alloc _ _)
  rw [hl] at HCk HSz HEn HHd ⊢
  clear hms hT hes hke hka hva hfit hc hl hb r1 r2 r3 hsize hcl
  generalize crc ((headB 1 k1 (entL n.keys n.vals).length 0).take 12 ++ entL n.keys n.vals) = c at *
  generalize entL n.keys n.vals = es at *
  generalize headB 1 k1 es.length c = H16 at *
  generalize n.encL sz = EL at *
  have HLH := hidden hH16
  have hgt : ¬ (sz : Int) < ((es.length + 16 : Nat) : Int) := by omega
  have hmk0 := fun W => make_bytes sz (by omega) W
  obtain ⟨ZA, hZA⟩ : ∃ ZA, (List.replicate sz (U8 0)).toArray = ZA := ⟨_, rfl⟩
  rw [hZA] at hmk0
  have HZA := hidden hZA
  have hmk := hidden hmk0
  have hsk : 16 + (sz - 16) = sz := by omega
  obtain ⟨s16, hs16⟩ : ∃ s16, sz - 16 = s16 := ⟨_, rfl⟩
  rw [hs16] at hsk
  have hs16' : 0 < s16 ∧ es.length ≤ s16 := by omega
  have HSL := hidden (fun g W => slice16 g sz (by omega) W s16 hsk hs16'.1)
  have hzsz : ZA.size = sz := by rw [← hZA]; simp
  have HZS := hidden hzsz
  clear hmk0 hZA hs16 hzsz
  clear hH16
  go_enter Tryd.func9, Tryd.ntmps9
  go_wp2_with (first
    | (go_at_call 13; refine (HCk.out _ K0.out).mono ?_; rintro e w1 ⟨rfl, q1⟩; have b1 := blk_kept q1 (fun h => h) (blk_new w (.cells #[.bool true, .slice a1 k1 c1, .slice a2 k2 c2, .slice a3 k3 c3] 25)); have x0 : w1.cell? ⟨w.heap.size, 0, none⟩ = some (.bool true) := blk_cell b1; have x1 : w1.cell? ⟨w.heap.size, 1, none⟩ = some (.slice a1 k1 c1) := blk_cell b1; have x2 : w1.cell? ⟨w.heap.size, 2, none⟩ = some (.slice a2 k2 c2) := blk_cell b1; have x3 : w1.cell? ⟨w.heap.size, 3, none⟩ = some (.slice a3 k3 c3) := blk_cell b1; have K1 := hidden (K0.out.trans q1); have B1 := hidden b1; clear q1 b1)
    | (go_at_call 31; refine (HMs.out _).mono ?_; rintro e w1' ⟨rfl, rfl⟩)
    | (go_at_call 15; refine (HSz.out _ K1.out).mono ?_; rintro e w2 ⟨rfl, q2⟩; have b2 := blk_kept q2 (fun h => h) B1.out; have y0 : w2.cell? ⟨w.heap.size, 0, none⟩ = some (.bool true) := blk_cell b2; have y1 : w2.cell? ⟨w.heap.size, 1, none⟩ = some (.slice a1 k1 c1) := blk_cell b2; have y2 : w2.cell? ⟨w.heap.size, 2, none⟩ = some (.slice a2 k2 c2) := blk_cell b2; have y3 : w2.cell? ⟨w.heap.size, 3, none⟩ = some (.slice a3 k3 c3) := blk_cell b2; have K2 := hidden (K1.out.trans q2); have B2 := hidden b2; clear q2 b2)
    | (go_at_call 32; refine (HEn.out _ K2.out).mono ?_; rintro e w3 ⟨rfl, q3⟩; have hmk3 := hmk.out w3; have b3 := blk_alloc (blk_kept q3 (fun h => h) B2.out) (.cells ZA 5); have z0 : (w3.alloc (.cells ZA 5)).cell? ⟨w.heap.size, 0, none⟩ = some (.bool true) := blk_cell b3; have z1 : (w3.alloc (.cells ZA 5)).cell? ⟨w.heap.size, 1, none⟩ = some (.slice a1 k1 c1) := blk_cell b3; have z2 : (w3.alloc (.cells ZA 5)).cell? ⟨w.heap.size, 2, none⟩ = some (.slice a2 k2 c2) := blk_cell b3; have z3 : (w3.alloc (.cells ZA 5)).cell? ⟨w.heap.size, 3, none⟩ = some (.slice a3 k3 c3) := blk_cell b3; have K3 := hidden ((K2.out.trans q3).alloc (.cells ZA 5)); have hw3 : w.heap.size < w3.heap.size := (by have h9 := blk_lt (blk_kept q3 (fun h => h) B2.out); exact h9); clear q3 b3)
    | (go_at_call 33; refine (HHd.out _ K3.out).mono ?_; rintro e w5 ⟨rfl, q5⟩; have g5 := blk_kept q5 (fun h => h) (blk_new w3 (.cells ZA 5)); have G5 := hidden g5; have K5 := hidden (K3.out.trans q5); clear q5 g5)
    | (go_at_call 34; refine (HTx.out _).mono ?_; rintro e w6 ⟨rfl, q6⟩; have g6 := blk_kept q6 (fun h => h) G5.out; obtain ⟨W7, hcp, g7, k7⟩ := copy_str H16 w6 w3.heap.size 0 sz sz ZA 5 g6 (by rw [HLH.out]; omega) (by rw [HLH.out, HZS.out]; omega); obtain ⟨C7, hC7⟩ : ∃ C7, (ZA.toList.take 0 ++ H16.map U8 ++ ZA.toList.drop (0 + H16.length)).toArray = C7 := ⟨_, rfl⟩; rw [hC7] at g7; have hC7s : C7.size = sz := (by rw [← hC7]; simp [HLH.out, HZS.out]; omega); obtain ⟨W8, hcp2, g8, k8⟩ := copy_str es W7 w3.heap.size 16 s16 s16 C7 5 g7 (by omega) (by rw [hC7s]; omega); have hsl := HSL.out w3.heap.size W7; have HC7 := hidden hC7; have HC7S := hidden hC7s; have G8 := hidden g8; have K8 := hidden ((((K5.out.trans q6).trans' k7 (fun i hi hs => by have : i = w3.heap.size := hs; omega))).trans' k8 (fun i hi hs => by have : i = w3.heap.size := hs; omega)); clear q6 g6 g7 k7 g8 k8 hC7 hC7s))
  go_returns
  refine ⟨_, rfl, ⟨w3.heap.size, rfl, ?_, K8.out⟩⟩
  have hz := HZA.out
  have hlen : EL.length = sz := by
    rw [HL.out, List.length_append, List.length_append, List.length_replicate, HLH.out]
    omega
  refine ⟨by rw [List.length_map, hlen, Nat.mul_one], .inr ⟨w3.heap.size, sz, _, rfl, by omega, G8.out, Nat.le_refl _, by unfold maxLen; omega, ?_, ?_⟩⟩
  · simp [HC7S.out]
    omega
  · rw [HL.out]
    have h7 := HC7.out
    rw [← hz] at h7
    exact enc_list H16 es sz HLH.out (by omega) _ h7
end Go.Proofs.YtpjgghalnkfdkaaDoor
