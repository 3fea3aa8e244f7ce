/- sha's New, Len, Copy, padding, walked. -/
import Derived.Test.YtbankcgkbiflhaaDoorSh4
import Derived.Lib.BufferWrite
import Derived.Laws.OwnMore
namespace Go.Proofs.YtbankcgkbiflhaaDoor
open Go.RowKit
set_option linter.unusedVariables false

theorem hw_new {w : World} {g : Nat} (h : w.heap[g]? = some (.cells (hcells H0 (List.replicate 64 0) 0) 74 (0, 0))) : HW w g [] :=
  ⟨List.replicate 64 0, rfl, h, rfl⟩
set_option maxHeartbeats 1000000 in
set_option maxRecDepth 100000 in
theorem new_any (w : World) : Calls Tryd.prog 21 #[] w fun e w' => ∃ g, e = .returned (.pointer (some ⟨g, 0, none⟩)) ∧ w.heap.size ≤ g ∧ HW w' g [] ∧ Same w w' := by
  go_enter Tryd.func21, Tryd.ntmps21
  go_wp2_with (go_at_call 32; refine (first_any _).mono ?_; rintro e w1 ⟨rfl, k1⟩; have K1 := hidden k1; clear k1)
  go_returns
  exact ⟨_, rfl, K1.out.size, hw_new (blk_new w1 _), K1.out.alloc _⟩
set_option maxHeartbeats 1000000 in
set_option maxRecDepth 100000 in
theorem len_any {g : Nat} {L : List UInt8} {w : World} (h : HW w g L) : Calls Tryd.prog 25 #[.pointer (some ⟨g, 0, none⟩)] w fun e w' => e = .returned (.int .i64 (L.length : Int)) ∧ w = w' := by
  obtain ⟨bs, h1, h2, h3⟩ := h
  have c1 : w.cell? ⟨g, 72, none⟩ = some (.int .i64 (L.length : Int)) := (blk_cell h2).trans (hc_72 _ _ _ h1)
  clear h2 h3
  go_enter Tryd.func25, Tryd.ntmps25
  go_wp2
  go_returns
  exact ⟨rfl, rfl⟩
set_option maxHeartbeats 1000000 in
theorem lenNil_any (w : World) : Calls Tryd.prog 25 #[.pointer none] w fun e w' => e = .returned (.int .i64 0) ∧ w = w' := by
  go_enter Tryd.func25, Tryd.ntmps25
  go_wp2
  go_returns
  exact ⟨rfl, rfl⟩
set_option maxHeartbeats 1000000 in
theorem copyNil_any (w : World) : Calls Tryd.prog 22 #[.pointer none] w fun e w' => e = .returned (.pointer none) ∧ w = w' := by
  go_enter Tryd.func22, Tryd.ntmps22
  go_wp2
  go_returns
  exact ⟨rfl, rfl⟩
theorem hc_one (s : S8) (bs : List UInt8) (n : Nat) : (hcells s bs n).all (·.oneCell') = true := by
  unfold hcells
  refine all_oneCell_toArray (fun v hv => ?_)
  simp only [S8.cells, List.mem_append, List.mem_map, List.mem_cons, List.not_mem_nil, or_false] at hv
  rcases hv with (rfl | rfl | rfl | rfl | rfl | rfl | rfl | rfl) | ⟨x, _, rfl⟩ | rfl <;> rfl
set_option maxHeartbeats 1000000 in
set_option maxRecDepth 100000 in
theorem copy_any {g : Nat} {L : List UInt8} {w : World} (h : HW w g L) : Calls Tryd.prog 22 #[.pointer (some ⟨g, 0, none⟩)] w fun e w' => ∃ g', e = .returned (.pointer (some ⟨g', 0, none⟩)) ∧ w.heap.size ≤ g' ∧ HW w' g' L ∧ Same w w' := by
  obtain ⟨bs, h1, h2, h3⟩ := h
  have hz := hc_size (runN L (L.length / 64)) bs L.length h1
  have Hld := hidden (ld_row (P := Tryd.prog) (ty := 74) h2 Tryd.underlying74 rfl 73 i74 hz)
  have HR : Hid (HW (w.alloc (.cells (hcells (runN L (L.length / 64)) bs L.length) 74)) w.heap.size L) := hidden ⟨bs, h1, blk_new w _, h3⟩
  have Ho := hidden (hc_one (runN L (L.length / 64)) bs L.length)
  have HZ := hidden hz
  clear h2 h3 hz
  generalize hcells (runN L (L.length / 64)) bs L.length = C at *
  go_enter Tryd.func22, Tryd.ntmps22
  go_wp2_with (first
    | (refine wl_load 74 _ rfl rfl _ rfl _ Hld.out ?_)
    | (refine wl_store 74 _ _ rfl rfl rfl _ rfl _ rfl (run_storeAt_new w 74 _ C (by rw [i74, HZ.out]) (by rw [HZ.out]; rfl) Ho.out) ?_))
  go_returns
  exact ⟨_, rfl, Nat.le_refl _, HR.out, same_alloc _ _⟩
theorem info5 : (Tryd.prog.info? 5).map (fun i => (i.zero, i.size, i.bytes)) = some (some (.int .u8 0), 1, 1) := by kernel_rfl
theorem make_bytes (n : Nat) (hn : n ≤ 281474976710656) (W : World) :
    (Instr.makeSlice 22 (.int .i64 (n : Int)) (.int .i64 (n : Int))).run Tryd.prog W = .ok (.slice (some ⟨W.heap.size, 0, none⟩) n n) (W.alloc (.cells (List.replicate n (U8 0)).toArray 5)) := by
  obtain ⟨i0, hi, hz0, hz1, hz2⟩ := info_parts info5
  have h := run_make (P := Tryd.prog) W 22 5 i0 (.int .u8 0) Tryd.underlying22 hi hz0 .i64 .i64 (n : Int) (n : Int) (by omega) (by omega) (by rw [hz2]; omega) (by omega)
  have hM : madeCells (Value.int .u8 0).cells (n * i0.size) = (List.replicate n (U8 0)).toArray := by
    rw [hz1, Nat.mul_one]
    apply Array.ext'
    rw [List.toList_toArray]
    exact toList_madeCells_one _ _
  rw [Int.toNat_natCast, hM] at h
  exact h
/-- The padding of which i of the last 8 bytes are laid. -/
def padR (z N i : Nat) : List UInt8 := 128 :: List.replicate z 0 ++ ((be8 N).take i ++ List.replicate (8 - i) 0)
theorem be8_len (N : Nat) : (be8 N).length = 8 := by simp [be8]
theorem padR_len (z N i : Nat) (h : i ≤ 8) : (padR z N i).length = z + 9 := by simp [padR, be8_len]; omega
theorem padR_0 (z N : Nat) : ((List.replicate (z + 9) (U8 0)).toArray.setIfInBounds 0 (.int .u8 128)) = ((padR z N 0).map U8).toArray := by
  rw [List.setIfInBounds_toArray]
  congr 1
  rw [show z + 9 = z + 8 + 1 from rfl, List.replicate_succ, List.set_cons_zero, ← List.replicate_append_replicate]
  simp [padR, U8]
theorem padR_8 (n : Nat) : padR (63 - (n + 8) % 64) (8 * n % 18446744073709551616) 8 = padL n := by
  unfold padR padL
  rw [List.take_of_length_le (by rw [be8_len]; omega)]
  simp
theorem padR_put (z N i : Nat) (h : i < 8) : ((padR z N i).map U8).toArray.setIfInBounds (z + 1 + i) (U8 (UInt8.ofNat (N / 2 ^ (56 - 8 * i) % 256))) = ((padR z N (i + 1)).map U8).toArray := by
  rw [List.setIfInBounds_toArray, ← List.map_set]
  congr 2
  unfold padR
  have hl : (128 :: List.replicate z (0 : UInt8)).length = z + 1 := by simp
  rw [List.set_append_right _ _ (by rw [hl]; omega), hl, show z + 1 + i - (z + 1) = i by omega]
  congr 1
  rw [List.set_append_right _ _ (by rw [List.length_take, be8_len]; omega), List.length_take, be8_len, Nat.min_eq_left (by omega), Nat.sub_self, show 8 - i = 8 - (i + 1) + 1 by omega, List.replicate_succ, List.set_cons_zero, List.take_succ_eq_append_getElem (by rw [be8_len]; omega), List.append_assoc]
  congr 1
  simp [be8]
set_option maxHeartbeats 1000000 in
set_option maxRecDepth 100000 in
theorem padding_any (n : Nat) (hn : n ≤ 1152921504606846976) (w : World) : Calls Tryd.prog 34 #[.int .i64 (n : Int)] w fun e w' => e = .returned (.slice (some ⟨w.heap.size, 0, none⟩) (padL n).length (padL n).length) ∧ w'.heap[w.heap.size]? = some (.cells ((padL n).map U8).toArray 5 (0, 0)) ∧ Same w w' := by
  obtain ⟨z, hz⟩ : ∃ z, z = 63 - (n + 8) % 64 := ⟨_, rfl⟩
  obtain ⟨N, hN⟩ : ∃ N, N = 8 * n := ⟨_, rfl⟩
  have HP8 : Hid (padR z N 8 = padL n) := hidden (by have h8 := padR_8 n; rw [Nat.mod_eq_of_lt (show 8 * n < 18446744073709551616 by omega)] at h8; rw [hz, hN]; exact h8)
  have HPn : Hid ((padL n).length = z + 9) := hidden (by rw [padL_len]; omega)
  have hmk := make_bytes (z + 9) (by omega)
  have hzz : z ≤ 63 := by omega
  have e1 : (64 : Int) - ((n : Int) + 8) % 64 = ((z + 1 : Nat) : Int) := by omega
  have e1' : (64 : Int) - ((n : Int) + 8).tmod 64 = ((z + 1 : Nat) : Int) := by rw [Int.tmod_eq_emod_of_nonneg (by omega)]; omega
  have e2 : ((z + 1 : Nat) : Int) + 8 = ((z + 9 : Nat) : Int) := by omega
  have HNb := hidden (show N ≤ 9223372036854775808 by omega)
  obtain ⟨z1, hz1⟩ : ∃ z1, z1 = z + 1 := ⟨_, rfl⟩
  obtain ⟨z9, hz9⟩ : ∃ z9, z9 = z + 9 := ⟨_, rfl⟩
  rw [← hz1] at e1 e1' e2
  rw [← hz9] at e2 hmk HPn
  have e3 : 8 * (n : Int) = (N : Int) := by omega
  have e4 : IntKind.u64.wrap (n : Int) = (n : Int) := by rw [IntKind.wrap_u64]; omega
  have e5 : IntKind.u64.wrap (N : Int) = (N : Int) := by rw [IntKind.wrap_u64]; omega
  have HZ0 := hidden (padR_0 z N)
  rw [← hz9] at HZ0
  obtain ⟨C0, hC0⟩ : ∃ C0, C0 = (List.replicate z9 (U8 0)).toArray := ⟨_, rfl⟩
  have hc0 : C0[0]? = some (U8 0) := by rw [hC0, List.getElem?_toArray, List.getElem?_replicate, if_pos (by omega)]
  rw [← hC0] at hmk HZ0
  clear hC0
  have HZ1 := hidden hz1
  have HZ9 := hidden hz9
  obtain ⟨g, hg⟩ : ∃ g, w.heap.size = g := ⟨_, rfl⟩
  have hz1b : (z1 : Int) ≤ 64 := by omega
  have hz9b : (z9 : Int) ≤ 72 := by omega
  have hz9c : (0 : Int) < (z9 : Int) := by omega
  have hz9d : (z9 : Int) = (z1 : Int) + 8 := by omega
  have H9d := hidden hz9d
  clear hz hN hz1 hz9 hzz hz9d
  go_enter Tryd.func34, Tryd.ntmps34
  go_wp2
  go_loopw [19] (fun x wr => ∃ i : Nat, i ≤ 8 ∧ x = .int .i64 i ∧ wr.heap[g]? = some (.cells ((padR z N i).map U8).toArray 5 (0, 0)) ∧ Same w wr) (fun x _ => 8 - (intOf x).toNat)
  case atStart =>
    refine ⟨0, by omega, rfl, ?_, same_alloc _ _⟩
    rw [← HZ0.out, ← hg]
    exact blk_new w _
  case round =>
    obtain ⟨i, hi, rfl, hb, hS⟩ := hrel
    have HS := hidden hS
    have Hb := hidden hb
    by_cases hlt : i < 8
    · obtain ⟨d, hd⟩ : ∃ d, d = 56 - 8 * i := ⟨_, rfl⟩
      obtain ⟨j, hj⟩ : ∃ j, j = z1 + i := ⟨_, rfl⟩
      have h1 := HZ1.out
      have h9 := HZ9.out
      have cw : wr.cell? ⟨g, j, none⟩ = some (U8 ((padR z N i).getD j 0)) := (blk_cell hb).trans (by rw [bytes_at _ _ (by rw [padR_len _ _ _ hi]; omega)]; rfl)
      have fw : wr.frozen? ⟨g, j, none⟩ = false := blk_free hb
      have HPut := hidden (padR_put z N i hlt)
      rw [← hd, ← h1, ← hj] at HPut
      have q1 : (56 : Int) - 8 * (i : Int) = (d : Int) := by omega
      have q2 : (z1 : Int) + (i : Int) = (j : Int) := by omega
      have q3 : (j : Int) < (z9 : Int) := by omega
      have q4 : IntKind.i64.wrap (j : Int) = (j : Int) := by rw [IntKind.wrap_i64]; omega
      have q5 : IntKind.i64.wrap (d : Int) = (d : Int) := by rw [IntKind.wrap_i64]; omega
      have q6 : (i : Int) < 8 := by omega
      have q7 : (d : Int) < 64 := by omega
      generalize (padR z N i).getD j 0 = old at *
      clear hb hS hd hj h1 h9
      go_wp2
      go_roundw
      case rel =>
        refine ⟨i + 1, by omega, by go_num, ?_, HS.out.setNew (p := ⟨g, j, none⟩) (by rw [hg]; exact Nat.le_refl _) _⟩
        have e : Value.int .u8 ((N : Int) / 2 ^ d % 256) = U8 (UInt8.ofNat (N / 2 ^ d % 256)) := by
          unfold U8
          rw [UInt8.toNat_ofNat', Nat.mod_eq_of_lt (a := N / 2 ^ d % 256) (by have := Nat.mod_lt (N / 2 ^ d) (show 0 < 256 by decide); omega)]
          congr 1
        rw [e, ← HPut.out]
        exact blk_set Hb.out _
      case measure => simp [intOf]; omega
    · have q6 : ¬ (i : Int) < 8 := by omega
      have h8 : i = 8 := by omega
      rw [h8, HP8.out] at Hb
      clear h8 hb hS
      go_wp2
      go_returns
      exact ⟨by rw [HPn.out]; rfl, Hb.out, HS.out⟩
end Go.Proofs.YtbankcgkbiflhaaDoor
