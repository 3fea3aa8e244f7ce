/- slices.Repeat of one, slices.Clone; disk's of, New. -/
import Derived.Test.YteoajgphahobiaaD3
import Derived.Test.YteoajgphahobiaaStepC
import Derived.Maps.AppendAt
import Derived.Laws.BitsAllLaws
namespace Go.Proofs.Yteoajgphahobiaa
open Go.RowKit
set_option linter.unusedVariables false


theorem u64_mask (c : Nat) (hc : c < 4294967296) : bits .and .u64 (c : Int) 4294967295 = (c : Int) := by
  show IntKind.u64.wrap ((BitVec.ofInt 64 (c : Int) &&& BitVec.ofInt 64 ((4294967295 : Nat) : Int)).toNat : Int) = _
  rw [BitVec.toNat_and, ofInt_u64 c (by omega), ofInt_u64 4294967295 (by omega), show (4294967295 : Nat) = 2 ^ 32 - 1 from rfl, Nat.and_two_pow_sub_one_eq_mod, Nat.mod_eq_of_lt (by omega), IntKind.wrap_u64]
  omega
set_option maxHeartbeats 1000000 in
set_option maxRecDepth 100000 in
theorem mul_one (c : Nat) (w : World) (hc : c ≤ 4096) : Calls Try.prog 54 #[.int .u64 1, .int .u64 c] w fun e w' => e = .returned (.tuple #[.int .u64 0, .int .u64 c]) ∧ w = w' := by
  have ha := u64_mask c (by omega)
  have h11 : bits .and .u64 1 4294967295 = 1 := u64_mask 1 (by decide)
  have h00 : bits .and .u64 0 4294967295 = 0 := u64_mask 0 (by decide)
  have hw : IntKind.u64.wrap (c : Int) = (c : Int) := by rw [IntKind.wrap_u64]; omega
  have hw0 : IntKind.u64.wrap 0 = 0 := by rw [IntKind.wrap_u64]; omega
  have hs : (c : Int) / 4294967296 = 0 := by omega
  go_enter Try.func54, Try.ntmps54
  go_wp2_with (go_at_call 59; go_in)
  go_returns
  exact ⟨rfl, rfl⟩
theorem make_rows (n : Nat) (hn : n ≤ 4096) (W : World) :
    (Instr.makeSlice 52 (.int .i64 (n : Int)) (.int .i64 (n : Int))).run Try.prog W = .ok (.slice (some ⟨W.heap.size, 0, none⟩) n n) (W.alloc (.cells (List.replicate n (Value.slice none 0 0)).toArray 22)) := by
  obtain ⟨i0, hi, hz0, hz1, hz2⟩ := info_parts infoB
  have h := run_make (P := Try.prog) W 52 22 i0 (.slice none 0 0) Try.underlying52 hi hz0 .i64 .i64 (n : Int) (n : Int) (by omega) (by omega) (by rw [hz2]; omega) (by omega)
  have hM : madeCells (Value.slice none 0 0).cells (n * i0.size) = (List.replicate n (Value.slice none 0 0)).toArray := by
    rw [hz1, Nat.mul_one]
    apply Array.ext'
    rw [List.toList_toArray]
    exact toList_madeCells_one _ _
  rw [Int.toNat_natCast, hM] at h
  exact h
/-- A row whose first k cells are z, the others nil. -/
def someOf (z : Value) (k c : Nat) : Array Value := (List.replicate k z ++ List.replicate (c - k) (Value.slice none 0 0)).toArray
theorem copy_rows (z : Value) (ho : z.oneCell' = true) (k c r : Nat) (a : Addr) (sl sc m : Nat) (W : World) (hk : k < c) (hg : W.heap[r]? = some (.cells (someOf z k c) 22 (0, 0)))
    (hm : m = Nat.min sl (c - k)) (hs : ∀ j, j < m → W.cell? (a.add j) = some z) :
    (Builtin.copy_ #[52, 52] 3 #[.slice (some ⟨r, k, none⟩) (c - k) (c - k), .slice (some a) sl sc]).run Try.prog W = .ok (goInt m) (W.setRow r (someOf z (k + m) c)) := by
  obtain ⟨i0, hi, hz0, hz1, hz2⟩ := info_parts infoB
  have hmc : m ≤ c - k := by rw [hm]; exact Nat.min_le_right _ _
  have h := run_copy_row (P := Try.prog) W 52 52 3 22 r k (c - k) (c - k) a sl sc _ _ (List.replicate m z) Try.underlying52 (by rw [hi]; simp [hz1]) hg (by rw [List.length_replicate]; exact hm)
    (fun j x hx => by
      rw [List.getElem?_replicate] at hx
      split at hx
      · rename_i hj; cases hx; exact hs j hj
      · cases hx) (by rw [List.length_replicate]; unfold someOf; simp; omega) (fun x hx => by rw [List.eq_of_mem_replicate hx]; exact ho)
  rw [h, List.length_replicate]
  have e : List.take k (someOf z k c).toList ++ List.replicate m z ++ List.drop (k + m) (someOf z k c).toList = List.replicate (k + m) z ++ List.replicate (c - (k + m)) (Value.slice none 0 0) := by
    unfold someOf
    rw [List.toList_toArray, List.take_left' List.length_replicate, List.drop_append, List.drop_of_length_le (by simp), List.nil_append, List.length_replicate, Nat.add_sub_cancel_left, List.drop_replicate, Nat.sub_sub, List.replicate_append_replicate]
  rw [e]
  simp only [someOf]
set_option maxHeartbeats 1000000 in
set_option maxRecDepth 100000 in
theorem repeat_one (g c : Nat) (z : Value) (w : World) (hc : c ≤ 4096) (h1 : 1 ≤ c) (hz : w.cell? ⟨g, 0, none⟩ = some z) (ho : z.oneCell' = true) :
    Calls Try.prog 37 #[.slice (some ⟨g, 0, none⟩) 1 1, .int .i64 c] w fun e w' => e = .returned (.slice (some ⟨w.heap.size, 0, none⟩) c c) ∧ w'.heap[w.heap.size]? = some (.cells (List.replicate c z).toArray 22 (0, 0)) ∧ Same w w' := by
  have hm := hidden (fun w => mul_one c w hc)
  have hw : IntKind.u64.wrap (c : Int) = (c : Int) := by rw [IntKind.wrap_u64]; omega
  have hw2 : IntKind.i64.wrap (c : Int) = (c : Int) := by rw [IntKind.wrap_i64]; omega
  have hmk := make_rows c hc
  have hz0 : (List.replicate c (Value.slice none 0 0)).toArray = someOf z 0 c := by unfold someOf; simp
  have hgl := World.block_lt_of_cell? w _ hz
  have hz1 : (w.alloc (.cells (someOf z 0 c) 22)).cell? ⟨g, 0, none⟩ = some z := Kept.cell (same_alloc w _) (fun h => h) hz
  rw [hz0] at hmk
  have hcp := copy_rows z ho 0 c w.heap.size ⟨g, 0, none⟩ 1 1 1 (w.alloc (.cells (someOf z 0 c) 22)) (by omega) (heap_alloc_new w _) (Nat.min_eq_left (by omega)).symm (fun j hj => by
    obtain rfl : j = 0 := by omega
    rw [add_none]
    exact hz1)
  rw [Nat.sub_zero, Nat.zero_add] at hcp
  have hS : Same w ((w.alloc (.cells (someOf z 0 c) 22)).setRow w.heap.size (someOf z 1 c)) := same_setRow (same_alloc _ _) (Nat.le_refl _) _
  have hB : ((w.alloc (.cells (someOf z 0 c) 22)).setRow w.heap.size (someOf z 1 c)).heap[w.heap.size]? = some (.cells (someOf z 1 c) 22 (0, 0)) := setRow_heap _ _ _ _ _ _ (heap_alloc_new w _)
  generalize (w.alloc (.cells (someOf z 0 c) 22)).setRow w.heap.size (someOf z 1 c) = W1 at *
  have HS := hidden hS
  have HB := hidden hB
  clear hS hB hz1 hz0
  go_enter Try.func37, Try.ntmps37
  go_wp2_with (go_at_call 54; refine (hm.out _).mono ?_; rintro e w1 ⟨rfl, rfl⟩)
  go_loopw [8] (fun n wr => ∃ k : Nat, 1 ≤ k ∧ k ≤ c ∧ n = .int .i64 k ∧ wr.heap[w.heap.size]? = some (.cells (someOf z k c) 22 (0, 0)) ∧ Same w wr) (fun n wr => c - (intOf n).toNat)
  case atStart => exact ⟨1, Nat.le_refl _, h1, rfl, HB.out, HS.out⟩
  case round =>
    obtain ⟨k, hk1, hk2, rfl, hb, hK⟩ := hrel
    by_cases hlt : k < c
    · obtain ⟨m, hm⟩ : ∃ m, m = Nat.min k (c - k) := ⟨_, rfl⟩
      have hcp := copy_rows z ho k c w.heap.size ⟨w.heap.size, 0, none⟩ k c m wr.drew hlt hb hm (fun j hj => by
        have hj2 : j < k := Nat.lt_of_lt_of_le hj (by rw [hm]; exact Nat.min_le_left _ _)
        have hbb : wr.drew.heap[w.heap.size]? = some (.cells (someOf z k c) 22 (0, 0)) := hb
        rw [add_none, blk_cell hbb]
        unfold someOf
        rw [List.getElem?_toArray, List.getElem?_append_left (by simp; omega), List.getElem?_replicate, if_pos (by omega)])
      have HC := hidden hcp
      have HK := hidden hK
      have HB1 := hidden hb
      have q0 : (0 : Int) ≤ (k : Int) := Int.natCast_nonneg _
      have q1 : (k : Int) ≤ (c : Int) := by omega
      have q2 : (k : Int) < (c : Int) := by omega
      have hm1 : m ≤ c - k := by rw [hm]; exact Nat.min_le_right _ _
      have hm2 : 1 ≤ m := by rw [hm]; exact Nat.le_min.2 ⟨hk1, by omega⟩
      clear hK hb hm HC
      go_wp2
      go_region
      all_goals
        go_wp2
        go_roundw
        case rel => exact ⟨k + m, by omega, by omega, by go_num, setRow_heap _ _ _ _ _ _ HB1.out, same_setRow HK.out.drew (Nat.le_refl _) _⟩
        case measure => simp [intOf]; omega
    · obtain rfl : k = c := by omega
      have HB1 := hidden hb
      have HK := hidden hK
      clear hb hK
      go_wp2
      go_returns
      refine ⟨rfl, ?_, HK.out⟩
      rw [HB1.out]
      unfold someOf
      simp
end Go.Proofs.Yteoajgphahobiaa
