/- The document's EncodeSuper, walked. -/
import Derived.Test.YtlilgfcacoooaaaDoorLay6
import Derived.Test.YtlilgfcacoooaaaDoorLay8
import Derived.Deep.RegionWith
import Derived.Deep.RegionLaw
namespace Go.Proofs.YtlilgfcacoooaaaDoor
open Go.RowKit
set_option linter.unusedVariables false
attribute [local go_sem ↓] Go.wp_at_zero Go.wp_at_succ

def ints4 (l : List Nat) : List UInt8 := (l.map (be 4)).flatten
theorem ints4_snoc (l : List Nat) (x : Nat) : ints4 (l ++ [x]) = ints4 l ++ be 4 x := by simp [ints4]
theorem ints4_len (l : List Nat) : (ints4 l).length = 4 * l.length := by
  induction l with
  | nil => rfl
  | cons x l ih =>
    have e : ints4 (x :: l) = be 4 x ++ ints4 l := by simp [ints4]
    rw [e, List.length_append, be_length, ih, List.length_cons]; omega
theorem take_one_more (l : List Nat) (k : Nat) (h : k < l.length) : l.take (k + 1) = l.take k ++ [l.getD k 0] := by
  rw [List.take_succ_eq_append_getElem h, List.getD_eq_getElem?_getD, List.getElem?_eq_getElem h]; rfl
theorem bodyL_ints (gen root sector sectors journal pack cmin cnorm cmax seed nbits : Nat) (dd : Bool) :
    bodyL gen root sector sectors journal pack cmin cnorm cmax seed nbits dd = be 8 gen ++ ints4 [root, sector, sectors, journal, pack, cmin, cnorm, cmax] ++ (be 8 seed ++ be 2 nbits) ++ be 1 (flagN dd) := by simp [bodyL, ints4]
/-- A number's bytes as a text. -/
def numStr (s n : Nat) : ByteArray := ⟨(be s n).toArray⟩
theorem refNumberS (n s : Nat) (w : World) (hn : n < 18446744073709551616) (hs : s ≤ 8) :
    Calls Tryd.prog 61 #[.int .u64 n, .int .i64 s] w fun e w' => e = .returned (.string (numStr s n)) ∧ Same w w' := refNumber n s w hn hs
theorem refEnc_no (gen : Nat) (root : Int) (sector sectors journal pack cmin cnorm cmax : Int) (seed : Nat) (nbits : Int) (dd : Bool) (w : World) (e : Int) (h : supErr sectors journal root (Shp sector sectors journal pack cmin cnorm cmax nbits) = e) (he : e ≠ 0) :
    Calls Tryd.prog 27 #[.agg #[.int .u64 gen, .int .i64 root, .int .i64 sector, .int .i64 sectors, .int .i64 journal, .int .i64 pack, .int .i64 cmin, .int .i64 cnorm, .int .i64 cmax, .int .u64 seed, .int .i64 nbits, .bool dd]] w fun x w' => x = .returned (.tuple #[.slice none 0 0, .int .i64 e]) ∧ Same w w' := by
  have hc := fun w => refCsup_any gen root sector sectors journal pack cmin cnorm cmax seed nbits dd w
  rw [h] at hc
  have HC := hidden hc
  have heb : (e != 0) = true := by simpa using he
  clear hc h he
  go_enter Tryd.func27, Tryd.ntmps27
  go_wp2_with (go_at_call 25; refine (HC.out _).mono ?_; rintro e w1 ⟨rfl, k1⟩)
  go_returns
  exact ⟨rfl, Kept.trans (same_alloc _ _) k1⟩
set_option maxHeartbeats 4000000 in
set_option maxRecDepth 100000 in
theorem refEnc_yes (gen root sector sectors journal pack cmin cnorm cmax seed nbits : Nat) (dd : Bool) (w : World) (h : Sup gen root sector sectors journal pack cmin cnorm cmax seed nbits dd) :
    Calls Tryd.prog 27 #[.agg #[.int .u64 gen, .int .i64 root, .int .i64 sector, .int .i64 sectors, .int .i64 journal, .int .i64 pack, .int .i64 cmin, .int .i64 cnorm, .int .i64 cmax, .int .u64 seed, .int .i64 nbits, .bool dd]] w fun e w' => ∃ v, e = .returned (.tuple #[v, .int .i64 0]) ∧ Own w' v (superL gen root sector sectors journal pack cmin cnorm cmax seed nbits dd) w.heap.size ∧ Same w w' := by
  have hc := fun w => refCsup_any gen root sector sectors journal pack cmin cnorm cmax seed nbits dd w
  rw [h.ok] at hc
  have hroot := h.root
  have hs1 := h.shp.1.1
  have hs2 := h.shp.1.2.1
  have hsp := h.shp
  have hN : ∀ x ∈ [root, sector, sectors, journal, pack, cmin, cnorm, cmax], x < 4294967296 := by
    have h1 := hsp.2.1
    have h2 := hsp.2.2.1
    have h3 := hsp.2.2.2.1
    have h4 := hsp.2.2.2.2.1.1
    have h5 := hsp.2.2.2.2.1.2.1
    have h6 := hsp.2.2.2.2.1.2.2.1
    intro x hx
    simp at hx
    rcases hx with rfl | rfl | rfl | rfl | rfl | rfl | rfl | rfl <;> omega
  have hnb : nbits < 65536 := by have := hsp.2.2.2.2.2; omega
  have hg := fun w => refNumber gen 8 w h.g (by decide)
  have hseed := h.s
  have hf := fun w => refFrame_in 83 ⟨(bodyL gen root sector sectors journal pack cmin cnorm cmax seed nbits dd).toArray⟩ w (by decide) (by rw [ba_size, bodyL_len]; decide)
  have hn : (frameL 83 ⟨(bodyL gen root sector sectors journal pack cmin cnorm cmax seed nbits dd).toArray⟩).length = 63 := by rw [frameL_len, ba_size, bodyL_len]
  have hS : superL gen root sector sectors journal pack cmin cnorm cmax seed nbits dd = frameL 83 ⟨(bodyL gen root sector sectors journal pack cmin cnorm cmax seed nbits dd).toArray⟩ ++ List.replicate (sector - 63) 0 := rfl
  have hbody := bodyL_ints gen root sector sectors journal pack cmin cnorm cmax seed nbits dd
  generalize frameL 83 ⟨(bodyL gen root sector sectors journal pack cmin cnorm cmax seed nbits dd).toArray⟩ = F at hf hn hS
  generalize bodyL gen root sector sectors journal pack cmin cnorm cmax seed nbits dd = BL at hf hbody
  have hmk := make_bytes sector (by omega)
  have hcp := copy_made sector ⟨F.toArray⟩ (by rw [ba_size]; omega)
  have hlen : (F ++ List.replicate (sector - 63) 0).length = sector := by rw [List.length_append, hn, List.length_replicate]; omega
  rw [ba_list, ba_size, hn] at hcp
  have HLen := hidden hlen
  clear hlen hn
  generalize F ++ List.replicate (sector - 63) 0 = SL at *
  generalize (List.replicate sector (U8 0)).toArray = Z at hmk hcp
  have HC := hidden hc
  have HG := hidden hg
  have HF := hidden hf
  have HS := hidden hS
  have HBody := hidden hbody
  have HN := hidden hN
  have HMK := hidden hmk
  have HCP := hidden hcp
  clear hc hg hf hS hbody hN hsp h hmk hcp
  go_enter Tryd.func27, Tryd.ntmps27
  go_wp2_with (first
    | (go_at_call 25; refine (HC.out _).mono ?_; rintro e w1 ⟨rfl, k1⟩; have bb := blk_kept k1 (fun h => h) (blk_new w _); have a0 : ∀ o, (w1.alloc o).cell? ⟨w.heap.size, 0, none⟩ = some (.int .u64 gen) := (fun o => blk_cell (blk_alloc bb o)); have b0 : w1.cell? ⟨w.heap.size, 0, none⟩ = some (.int .u64 gen) := blk_cell bb; have b1 : w1.cell? ⟨w.heap.size, 1, none⟩ = some (.int .i64 root) := blk_cell bb; have b2 : w1.cell? ⟨w.heap.size, 2, none⟩ = some (.int .i64 sector) := blk_cell bb; have b3 : w1.cell? ⟨w.heap.size, 3, none⟩ = some (.int .i64 sectors) := blk_cell bb; have b4 : w1.cell? ⟨w.heap.size, 4, none⟩ = some (.int .i64 journal) := blk_cell bb; have b5 : w1.cell? ⟨w.heap.size, 5, none⟩ = some (.int .i64 pack) := blk_cell bb; have b6 : w1.cell? ⟨w.heap.size, 6, none⟩ = some (.int .i64 cmin) := blk_cell bb; have b7 : w1.cell? ⟨w.heap.size, 7, none⟩ = some (.int .i64 cnorm) := blk_cell bb; have b8 : w1.cell? ⟨w.heap.size, 8, none⟩ = some (.int .i64 cmax) := blk_cell bb; have b9 : w1.cell? ⟨w.heap.size, 9, none⟩ = some (.int .u64 seed) := blk_cell bb; have b10 : w1.cell? ⟨w.heap.size, 10, none⟩ = some (.int .i64 nbits) := blk_cell bb; have b11 : w1.cell? ⟨w.heap.size, 11, none⟩ = some (.bool dd) := blk_cell bb; have BB := hidden bb; clear bb)
    | (go_at_call 61; refine (HG.out _).mono ?_; rintro e w2 ⟨rfl, k2⟩; have bb2 := blk_kept k2 (fun h => h) (blk_alloc BB.out _); have d1 : w2.cell? ⟨w.heap.size, 1, none⟩ = some (.int .i64 root) := blk_cell bb2; have cb := blk_kept k2 (fun h => h) (blk_new w1 _); have c0 : w2.cell? ⟨w1.heap.size, 0, none⟩ = some (.int .i64 sector) := blk_cell cb; have c1 : w2.cell? ⟨w1.heap.size, 1, none⟩ = some (.int .i64 sectors) := blk_cell cb; have c2 : w2.cell? ⟨w1.heap.size, 2, none⟩ = some (.int .i64 journal) := blk_cell cb; have c3 : w2.cell? ⟨w1.heap.size, 3, none⟩ = some (.int .i64 pack) := blk_cell cb; have c4 : w2.cell? ⟨w1.heap.size, 4, none⟩ = some (.int .i64 cmin) := blk_cell cb; have c5 : w2.cell? ⟨w1.heap.size, 5, none⟩ = some (.int .i64 cnorm) := blk_cell cb; have c6 : w2.cell? ⟨w1.heap.size, 6, none⟩ = some (.int .i64 cmax) := blk_cell cb; have c7 : w2.cell? ⟨w1.heap.size, 7, none⟩ = some (.int .u64 seed) := blk_cell cb; have c8 : w2.cell? ⟨w1.heap.size, 8, none⟩ = some (.int .i64 nbits) := blk_cell cb; have c9 : w2.cell? ⟨w1.heap.size, 9, none⟩ = some (.bool dd) := blk_cell cb; have CB := hidden cb; clear cb bb2))
  have hI : ∀ j, j < 8 → (w2.alloc (.cells #[.int .i64 root, .int .i64 sector, .int .i64 sectors, .int .i64 journal, .int .i64 pack, .int .i64 cmin, .int .i64 cnorm, .int .i64 cmax] 3)).cell? ⟨w2.heap.size, j, none⟩ = some (.int .i64 (([root, sector, sectors, journal, pack, cmin, cnorm, cmax].getD j 0 : Nat) : Int)) := by
    intro j hj
    rw [blk_cell (blk_new w2 _)]
    have hj' : j = 0 ∨ j = 1 ∨ j = 2 ∨ j = 3 ∨ j = 4 ∨ j = 5 ∨ j = 6 ∨ j = 7 := by omega
    rcases hj' with rfl | rfl | rfl | rfl | rfl | rfl | rfl | rfl <;> rfl
  have hcW := blk_alloc CB.out (.cells #[.int .i64 root, .int .i64 sector, .int .i64 sectors, .int .i64 journal, .int .i64 pack, .int .i64 cmin, .int .i64 cnorm, .int .i64 cmax] 3)
  have K2 : Same w (w2.alloc (.cells #[.int .i64 root, .int .i64 sector, .int .i64 sectors, .int .i64 journal, .int .i64 pack, .int .i64 cmin, .int .i64 cnorm, .int .i64 cmax] 3)) := Kept.alloc (Kept.trans (Kept.alloc (Kept.trans (same_alloc _ _) k1) _) k2) _
  clear BB CB k1 k2 c0 c1 c2 c3 c4 c5 c6 c7 c8 c9 d1 b0 b1 b2 b3 b4 b5 b6 b7 b8 b9 b10 b11 a0
  generalize hG : w2.alloc (.cells #[.int .i64 root, .int .i64 sector, .int .i64 sectors, .int .i64 journal, .int .i64 pack, .int .i64 cmin, .int .i64 cnorm, .int .i64 cmax] 3) = WI at hI hcW K2 ⊢
  clear hG
  have HI := hidden hI
  have HW := hidden hcW
  have K2' := hidden K2
  clear hI hcW K2
  have hX0 : (⟨(be 8 gen).toArray⟩ : ByteArray).data.toList = be 8 gen ++ ints4 ([root, sector, sectors, journal, pack, cmin, cnorm, cmax].take 0) := by rw [ba_list]; simp [ints4]
  generalize (⟨(be 8 gen).toArray⟩ : ByteArray) = X0 at hX0 ⊢
  have HX0 := hidden hX0
  clear hX0
  go_loopw [6, 43] (fun x i wr => ∃ (k : Nat) (X : ByteArray), k ≤ 8 ∧ i = .int .i64 k ∧ x = .string X ∧ X.data.toList = be 8 gen ++ ints4 ([root, sector, sectors, journal, pack, cmin, cnorm, cmax].take k) ∧ Same WI wr) (fun _ i _ => 8 - (intOf i).toNat)
  case atStart => exact ⟨0, X0, Nat.zero_le _, rfl, rfl, HX0.out, Kept.refl _ _⟩
  case round =>
    obtain ⟨k, X, hk, rfl, rfl, hX, hSm⟩ := hrel
    have hXl : X.size = 8 + 4 * k := by rw [← size_list, hX, List.length_append, be_length, ints4_len, List.length_take]; simp; omega
    have HX := hidden hX
    clear hX
    by_cases hlt : k < 8
    · have r1 : wr.cell? ⟨w2.heap.size, k, none⟩ = some (.int .i64 (([root, sector, sectors, journal, pack, cmin, cnorm, cmax].getD k 0 : Nat) : Int)) := Kept.cell hSm (fun h => h) (HI.out k hlt)
      have hx : [root, sector, sectors, journal, pack, cmin, cnorm, cmax].getD k 0 < 4294967296 := HN.out _ (by rw [List.getD_eq_getElem?_getD, List.getElem?_eq_getElem (by simpa using hlt)]; simp)
      have hn := fun w => refNumber ([root, sector, sectors, journal, pack, cmin, cnorm, cmax].getD k 0) 4 w (by omega) (by decide)
      have hY : X.data.toList ++ (⟨(be 4 ([root, sector, sectors, journal, pack, cmin, cnorm, cmax].getD k 0)).toArray⟩ : ByteArray).data.toList = be 8 gen ++ ints4 ([root, sector, sectors, journal, pack, cmin, cnorm, cmax].take (k + 1)) := by
        rw [ba_list, HX.out, take_one_more _ k (by simpa using hlt), ints4_snoc, List.append_assoc]
      have hYs : (⟨(be 4 ([root, sector, sectors, journal, pack, cmin, cnorm, cmax].getD k 0)).toArray⟩ : ByteArray).size = 4 := by rw [ba_size, be_length]
      generalize (⟨(be 4 ([root, sector, sectors, journal, pack, cmin, cnorm, cmax].getD k 0)).toArray⟩ : ByteArray) = Y at hn hY hYs
      have hadd : ∀ W : World, (Op.stringOp .add X Y).run Tryd.prog W = .ok (.string (X ++ Y)) W := fun W => run_string_add_sum W X Y (by omega)
      have HNu := hidden hn
      have HY : Hid ((X ++ Y).data.toList = be 8 gen ++ ints4 ([root, sector, sectors, journal, pack, cmin, cnorm, cmax].take (k + 1))) := hidden (by rw [fr_app]; exact hY)
      clear hn hY hYs hXl
      generalize X ++ Y = Z' at hadd HY
      generalize [root, sector, sectors, journal, pack, cmin, cnorm, cmax].getD k 0 = x at r1 HNu hx
      have hxw : IntKind.u64.wrap (x : Int) = (x : Int) := by rw [IntKind.wrap_u64]; omega
      go_wp2_with (go_at_call 61; refine (HNu.out _).mono ?_; rintro e w3 ⟨rfl, k3⟩)
      go_roundw
      case rel => exact ⟨k + 1, Z', by omega, by go_num, rfl, HY.out, Kept.trans hSm k3⟩
      case measure => simp [intOf]; omega
    · obtain rfl : k = 8 := by omega
      have HX8 : Hid (X.data.toList = be 8 gen ++ ints4 [root, sector, sectors, journal, pack, cmin, cnorm, cmax]) := HX.out
      clear HX hk hlt
      have cb := blk_kept hSm (fun h => h) HW.out
      have c0 : wr.cell? ⟨w1.heap.size, 0, none⟩ = some (.int .i64 sector) := blk_cell cb
      have c7 : wr.cell? ⟨w1.heap.size, 7, none⟩ = some (.int .u64 seed) := blk_cell cb
      have c8 : wr.cell? ⟨w1.heap.size, 8, none⟩ = some (.int .i64 nbits) := blk_cell cb
      have c9 : wr.cell? ⟨w1.heap.size, 9, none⟩ = some (.bool dd) := blk_cell cb
      clear cb
      have l8 : (numStr 8 seed).data.toList = be 8 seed := ba_list (be 8 seed)
      have l2 : (numStr 2 nbits).data.toList = be 2 nbits := ba_list (be 2 nbits)
      have z8 : (numStr 8 seed).size = 8 := by rw [← size_list, l8, be_length]
      have z2 : (numStr 2 nbits).size = 2 := by rw [← size_list, l2, be_length]
      have p1 : ∀ W : World, (Op.stringOp .add (numStr 8 seed) (numStr 2 nbits)).run Tryd.prog W = .ok (.string (numStr 8 seed ++ numStr 2 nbits)) W := fun W => run_string_add_sum W _ _ (by omega)
      have q1 : (numStr 8 seed ++ numStr 2 nbits).data.toList = be 8 seed ++ be 2 nbits := by rw [fr_app, l8, l2]
      have y1 : (numStr 8 seed ++ numStr 2 nbits).size = 10 := by rw [← size_list, q1]; simp [be_length]
      generalize numStr 8 seed ++ numStr 2 nbits = S10 at p1 q1 y1
      have p2 : ∀ W : World, (Op.stringOp .add X S10).run Tryd.prog W = .ok (.string (X ++ S10)) W := fun W => run_string_add_sum W _ _ (by omega)
      have q2 : (X ++ S10).data.toList = be 8 gen ++ ints4 [root, sector, sectors, journal, pack, cmin, cnorm, cmax] ++ (be 8 seed ++ be 2 nbits) := by rw [fr_app, HX8.out, q1]
      have y2 : (X ++ S10).size = 50 := by rw [← size_list, fr_app, List.length_append, size_list, size_list]; omega
      generalize X ++ S10 = X2 at p2 q2 y2
      have hnw : IntKind.u64.wrap (nbits : Int) = (nbits : Int) := by rw [IntKind.wrap_u64]; omega
      clear l8 l2 z8 z2 q1 y1
      obtain ⟨FL, hFL⟩ : ∃ FL : ByteArray, FL = ⟨#[if dd then 1 else 0]⟩ := ⟨_, rfl⟩
      have p3 : ∀ W : World, (Op.stringOp .add X2 FL).run Tryd.prog W = .ok (.string (X2 ++ FL)) W := fun W => run_string_add_sum W _ _ (by rw [hFL, y2]; show 50 + 1 ≤ _; decide)
      have q3 : X2 ++ FL = ⟨BL.toArray⟩ := by
        apply ba_ext
        rw [fr_app, q2, ba_list, HBody.out, hFL]
        cases dd <;> rfl
      have hf := HF.out
      rw [← q3] at hf
      have HF' := hidden hf
      clear hf q3 HF
      generalize X2 ++ FL = X3 at p3 HF'
      clear HX8 HBody q2 y2
      cases dd
      all_goals
        rw [hFL] at p3
        clear hFL
        first
          | have p4 : ∀ W : World, (Op.stringOp .add X2 ⟨#[0]⟩).run Tryd.prog W = .ok (.string X3) W := p3
          | have p4 : ∀ W : World, (Op.stringOp .add X2 ⟨#[1]⟩).run Tryd.prog W = .ok (.string X3) W := p3
        clear p3
        have o0 := c0
        have o7 := c7
        have o8 := c8
        have o9 := c9
        have K : Same wr wr := Kept.refl _ _
        go_wp2
        go_region_with (go_at_call 61; refine (refNumberS _ _ _ (by omega) (by decide)).mono ?_; rintro e wn ⟨rfl, kn⟩; (first | have K := Kept.trans K kn | have K := Kept.trans (Kept.drew K) kn); have c0 : wn.cell? ⟨w1.heap.size, 0, none⟩ = some (.int .i64 sector) := Kept.cell K (fun h => h) o0; have c7 : wn.cell? ⟨w1.heap.size, 7, none⟩ = some (.int .u64 seed) := Kept.cell K (fun h => h) o7; have c8 : wn.cell? ⟨w1.heap.size, 8, none⟩ = some (.int .i64 nbits) := Kept.cell K (fun h => h) o8; have c9 : wn.cell? ⟨w1.heap.size, 9, none⟩ = some (.bool _) := Kept.cell K (fun h => h) o9)
        all_goals
          go_wp2_with (go_at_call 62; refine (HF'.out _).mono ?_; rintro e w5 ⟨rfl, k5⟩; (first | have K5 := Kept.trans K k5 | have K5 := Kept.trans (Kept.drew K) k5); have d0 : w5.cell? ⟨w1.heap.size, 0, none⟩ = some (.int .i64 sector) := Kept.cell K5 (fun h => h) o0; have hmk := HMK.out; have hcp := HCP.out)
          go_returns
          have K6 : Same w w5 := Kept.trans (Kept.trans K2'.out hSm) K5
          refine ⟨_, rfl, ?_, same_setRow K6 _ _⟩
          rw [HS.out]
          exact own_setRow w5 SL sector w.heap.size HLen.out K6.size _
end Go.Proofs.YtlilgfcacoooaaaDoor
