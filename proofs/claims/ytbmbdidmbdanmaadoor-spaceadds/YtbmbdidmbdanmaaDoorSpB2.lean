/- The document's Bits. -/
import Derived.Test.YtbmbdidmbdanmaaDoorSpR7
import Derived.Laws.IdiomStrings
/- Bits, pure: what byte i holds once k bits are told; the document's Bits. -/
namespace Go.Proofs.YtbmbdidmbdanmaaDoor
open Go.RowKit Go.Shelf
set_option linter.unusedVariables false
set_option linter.unusedSimpArgs false
/-- n bits from a on, the first the lowest. -/
def bw (t : Nat → Bool) (a : Nat) : Nat → Nat
  | 0 => 0
  | n + 1 => bw t a n + (t (a + n)).toNat * 2 ^ n
theorem bw_lt (t : Nat → Bool) (a : Nat) : ∀ n, bw t a n < 2 ^ n
  | 0 => by simp [bw]
  | n + 1 => by
    have := bw_lt t a n
    have h2 : (t (a + n)).toNat * 2 ^ n ≤ 2 ^ n := by cases t (a + n) <;> simp
    simp only [bw]
    rw [Nat.pow_succ]
    omega
theorem bw_none {t : Nat → Bool} {a n : Nat} : ∀ m, (∀ j, n ≤ j → j < n + m → t (a + j) = false) → bw t a (n + m) = bw t a n
  | 0, _ => rfl
  | m + 1, h => by
    rw [← Nat.add_assoc]
    simp only [bw]
    rw [bw_none m (fun j h1 h2 => h j h1 (by omega)), h (n + m) (by omega) (by omega)]
    simp
theorem bw_bit (t : Nat → Bool) (a : Nat) : ∀ n j, (bw t a n).testBit j = (decide (j < n) && t (a + j))
  | 0, j => by simp [bw]
  | n + 1, j => by
    simp only [bw]
    have hl := bw_lt t a n
    rw [Nat.add_comm]
    cases e : t (a + n)
    · simp only [Bool.toNat_false, Nat.zero_mul, Nat.zero_add]
      rw [bw_bit t a n j]
      by_cases h1 : j < n
      · simp [h1, show j < n + 1 by omega]
      · by_cases h2 : j = n
        · subst h2; simp [e]
        · simp [h1, show ¬ j < n + 1 by omega]
    · simp only [Bool.toNat_true, Nat.one_mul]
      by_cases h1 : j < n
      · rw [Nat.testBit_two_pow_add_gt h1, bw_bit t a n j]
        simp [h1, show j < n + 1 by omega]
      · by_cases h2 : j = n
        · subst h2
          rw [Nat.testBit_two_pow_add_eq, bw_bit t a j j]
          simp [e]
        · rw [Nat.testBit_lt_two_pow (by
            have : 2 ^ (n + 1) ≤ 2 ^ j := Nat.pow_le_pow_right (by decide) (by omega)
            rw [Nat.pow_succ] at this
            omega)]
          simp [show ¬ j < n + 1 by omega]
/-- Byte i once k bits are told. -/
def bk (t : Nat → Bool) (k i : Nat) : Nat := bw t (8 * i) (min 8 (k - 8 * i))
theorem bk_lt (t : Nat → Bool) (k i : Nat) : bk t k i < 256 := by
  have h1 := bw_lt t (8 * i) (min 8 (k - 8 * i))
  have h2 : 2 ^ (min 8 (k - 8 * i)) ≤ 2 ^ 8 := Nat.pow_le_pow_right (by decide) (Nat.min_le_left _ _)
  unfold bk
  omega
theorem bk_zero (t : Nat → Bool) (i : Nat) : bk t 0 i = 0 := by
  unfold bk
  rw [Nat.zero_sub]
  rfl
theorem bk_other {t : Nat → Bool} {k i : Nat} (h : i ≠ k / 8) : bk t (k + 1) i = bk t k i := by
  unfold bk
  by_cases e : i < k / 8
  · rw [show min 8 (k + 1 - 8 * i) = 8 by omega, show min 8 (k - 8 * i) = 8 by omega]
  · rw [show min 8 (k + 1 - 8 * i) = 0 by omega, show min 8 (k - 8 * i) = 0 by omega]
theorem bk_here (t : Nat → Bool) (k : Nat) : bk t (k + 1) (k / 8) = bk t k (k / 8) + (t k).toNat * 2 ^ (k % 8) := by
  unfold bk
  rw [show min 8 (k + 1 - 8 * (k / 8)) = k % 8 + 1 by omega, show min 8 (k - 8 * (k / 8)) = k % 8 by omega]
  simp only [bw]
  rw [show 8 * (k / 8) + k % 8 = k by omega]
/-- The bytes as cells. -/
def byA (n : Nat) (o : Nat → Nat) : Array Value := ((List.range n).map fun i => Value.int .u8 ((o i : Nat) : Int)).toArray
theorem byA_at (n : Nat) (o : Nat → Nat) {k : Nat} (h : k < n) : (byA n o)[k]? = some (.int .u8 ((o k : Nat) : Int)) := by
  unfold byA
  simp [h]
theorem byA_set (n : Nat) (o : Nat → Nat) (k x : Nat) : (byA n o).setIfInBounds k (.int .u8 (x : Int)) = byA n (fun j => if j = k then x else o j) := by
  unfold byA
  apply Array.ext'
  simp only [Array.toList_setIfInBounds]
  apply List.ext_getElem
  · simp
  · intro i h1 h2
    simp only [List.getElem_set, List.getElem_map, List.getElem_range]
    by_cases e : k = i
    · simp [e]
    · have e' : ¬ i = k := fun h => e h.symm
      simp [e, e']
theorem byA_ext {n : Nat} {o p : Nat → Nat} (h : ∀ k, k < n → o k = p k) : byA n o = byA n p := by
  unfold byA
  have e : ((List.range n).map fun k => Value.int .u8 ((o k : Nat) : Int)) = (List.range n).map fun k => Value.int .u8 ((p k : Nat) : Int) := List.map_congr_left fun k hk => by rw [h k (List.mem_range.1 hk)]
  rw [e]
end Go.Proofs.YtbmbdidmbdanmaaDoor
namespace Go.Proofs.YtbmbdidmbdanmaaDoor
open Go.RowKit Go.Shelf
set_option linter.unusedVariables false
set_option linter.unusedSimpArgs false
variable {zp : Spare}
/-- Bytes as a text. -/
def bitsV (n : Nat) (o : Nat → Nat) : ByteArray := ⟨((List.range n).map fun i => UInt8.ofNat (o i)).toArray⟩
theorem by_text {w : World} {B n cap : Nat} {o : Nat → Nat} (h : w.heap[B]? = some (.cells (byA n o) 5 (0, 0))) (ho : ∀ i, i < n → o i < 256) :
    (convert 76 9 (.slice (some ⟨B, 0, none⟩) n cap)).run Tryd.prog w = .ok (.string (bitsV n o)) w := by
  have hl : ((List.range n).map fun i => UInt8.ofNat (o i)).length = n := by simp
  have := run_convert_bytes_back (P := Tryd.prog) w 76 9 5 ⟨B, 0, none⟩ cap ((List.range n).map fun i => UInt8.ofNat (o i)) Tryd.underlying76 Tryd.underlying5 Tryd.underlying9 (fun j hj => by
    have hj' : j < n := by rw [hl] at hj; exact hj
    rw [add_plain, Nat.zero_add, blk_cell h, byA_at _ _ hj']
    simp
    have := ho j hj'
    omega)
  rw [hl] at this
  exact this
theorem infoByte : (Tryd.prog.info? 5).map (fun i => (i.zero, i.size, i.bytes)) = some (some (.int .u8 0), 1, 1) := by kernel_rfl
theorem byA_zero (n : Nat) : byA n (fun _ => 0) = (List.replicate n (Value.int .u8 0)).toArray := by
  unfold byA
  congr 1
  apply List.ext_getElem
  · simp
  · intro i h1 h2
    simp
theorem make_bits (n : Nat) (hn : n ≤ 4096) (W : World) :
    (Instr.makeSlice 76 (.int .i64 (n : Int)) (.int .i64 (n : Int))).run Tryd.prog W = .ok (.slice (some ⟨W.heap.size, 0, none⟩) n n) (W.alloc (.cells (byA n (fun _ => 0)) 5)) := by
  rw [byA_zero]
  obtain ⟨i0, hi, hz0, hz1, hz2⟩ := info_parts infoByte
  have h := run_make (P := Tryd.prog) W 76 5 i0 (.int .u8 0) Tryd.underlying76 hi hz0 .i64 .i64 (n : Int) (n : Int) (by omega) (by omega) (by rw [hz2]; omega) (by omega)
  have hM : madeCells (Value.int .u8 0).cells (n * i0.size) = (List.replicate n (Value.int .u8 0)).toArray := by
    rw [hz1, Nat.mul_one]
    apply Array.ext'
    rw [List.toList_toArray]
    exact toList_madeCells_one _ _
  rw [Int.toNat_natCast, hM] at h
  exact h
theorem pow8 {s : Nat} (h : s < 8) : 2 ^ s ≤ 128 := by
  have : 2 ^ s ≤ 2 ^ 7 := Nat.pow_le_pow_right (by decide) (by omega)
  omega
set_option maxHeartbeats 4000000 in
set_option maxRecDepth 100000 in
theorem rf_bits (q r first count : Nat) (u v : Nat → Bool) (res : Nat) (w : World) (h : RfAt zp q r first count u v res w) (hf : first + count ≤ 4096) :
    Calls Tryd.prog 43 #[.pointer (some ⟨q, 0, none⟩)] w fun e w' => e = .returned (.string (bitsV ((count + 7) / 8) (bk (fun i => u i || v i) count))) ∧ Same w w' := by
  have HH := hidden (fun W (k : Same w W) => h.kept k (fun h => h) (fun h => h))
  have c1 : w.cell? ⟨q, 1, none⟩ = some (.slice (some ⟨r, 0, none⟩) count zp.cap) := blk_cell h.box
  have hrl := blk_lt h.row
  obtain ⟨t, ht⟩ : ∃ t : Nat → Bool, t = fun i => u i || v i := ⟨_, rfl⟩
  have HTT := hidden (fun k => congrFun ht k)
  rw [← ht]
  obtain ⟨c7, hc7⟩ : ∃ c7, c7 = count + 7 := ⟨_, rfl⟩
  obtain ⟨nb, hnb⟩ : ∃ nb, nb = c7 / 8 := ⟨_, rfl⟩
  rw [← hc7, ← hnb]
  have a1 : IntKind.i64.wrap ((count : Int) + 7) = (c7 : Int) := by rw [IntKind.wrap_i64]; omega
  have a2 : IntKind.i64.wrap ((c7 : Int) / 8) = (nb : Int) := by rw [IntKind.wrap_i64]; omega
  have hnb2 : count ≤ 8 * nb ∧ nb ≤ 4096 := by omega
  have hmk := make_bits nb hnb2.2
  have c2 : ∀ ob, (w.alloc ob).cell? ⟨q, 1, none⟩ = some (.slice (some ⟨r, 0, none⟩) count zp.cap) := fun ob => (same_alloc w ob).cell (fun h => h) c1
  clear h ht hc7 hnb
  go_enter Tryd.func43, Tryd.ntmps43
  go_wp2
  go_loopw [19] (fun x wr => ∃ k : Nat, k ≤ count ∧ x = .int .i64 k ∧ wr.heap[w.heap.size]? = some (.cells (byA nb (bk t k)) 5 (0, 0)) ∧ Same w wr) (fun x _ => count - (intOf x).toNat)
  case atStart => exact ⟨0, Nat.zero_le _, rfl, by rw [byA_ext (p := fun _ => 0) (fun k _ => bk_zero t k)]; exact blk_new _ _, same_alloc _ _⟩
  case round =>
    obtain ⟨k, hk, rfl, hB, hK⟩ := hrel
    have hR := HH.out _ hK
    have HB := hidden hB
    have HK := hidden hK
    have HR := hidden hR
    clear hB hK hR
    by_cases hlt : k < count
    · obtain ⟨z, hz⟩ : ∃ z, wh u v k = z := ⟨_, rfl⟩
      have rr : wr.cell? ⟨r, k, none⟩ = some (.int .i64 z) := by rw [blk_cell HR.out.rowA, rwA_at _ _ hlt, hz]
      have HZ := hidden hz
      clear hz
      have w4 : IntKind.i64.wrap ((k : Int) + 1) = (k : Int) + 1 := by rw [IntKind.wrap_i64]; omega
      have y4 : (0 : Int) ≤ (k : Int) := Int.natCast_nonneg _
      have y5 : (k : Int) < (count : Int) := by omega
      by_cases hz0 : z = 0
      · have hfree : t k = false := by rw [HTT.out k]; exact wh_free.1 (HZ.out.trans hz0)
        go_wp2
        go_roundw
        case rel =>
          refine ⟨k + 1, by omega, by go_num, ?_, HK.out⟩
          rw [byA_ext (p := bk t k) (fun i _ => ?_)]
          · exact HB.out
          · by_cases e : i = k / 8
            · rw [e, bk_here, hfree]; simp
            · exact bk_other e
        case measure => simp [intOf]; omega
      · have hbusy : t k = true := by
          rw [HTT.out k]
          cases e : (u k || v k) with
          | true => rfl
          | false => exact absurd (HZ.out.symm.trans (wh_free.2 e)) hz0
        obtain ⟨ib, hib⟩ : ∃ ib, ib = k / 8 := ⟨_, rfl⟩
        obtain ⟨s, hs⟩ : ∃ s, s = k % 8 := ⟨_, rfl⟩
        obtain ⟨y, hy⟩ : ∃ y, y = bk t k ib := ⟨_, rfl⟩
        obtain ⟨e2, he2⟩ : ∃ e2, e2 = 2 ^ s := ⟨_, rfl⟩
        obtain ⟨y2, hy2⟩ : ∃ y2, y2 = y + e2 := ⟨_, rfl⟩
        have hy3 : y2 = bk t (k + 1) ib := by rw [hy2, hy, he2, hs, hib, bk_here, hbusy]; simp
        have hyl : y2 < 256 := by rw [hy3]; exact bk_lt _ _ _
        have hel : e2 ≤ 128 := by rw [he2]; exact pow8 (by omega)
        have ibl : ib < nb := by omega
        have cb : wr.cell? ⟨w.heap.size, ib, none⟩ = some (.int .u8 (y : Int)) := by rw [blk_cell HB.out, byA_at _ _ ibl, hy]
        have fb : wr.frozen? ⟨w.heap.size, ib, none⟩ = false := blk_free HB.out
        have d1 : IntKind.i64.wrap ((k : Int) / 8) = (ib : Int) := by rw [IntKind.wrap_i64]; omega
        have d2 : IntKind.i64.wrap ((k : Int) % 8) = (s : Int) := by rw [IntKind.wrap_i64]; omega
        have d2' : (k : Int).tmod 8 = (s : Int) := by rw [Int.tmod_eq_emod_of_nonneg (by omega)]; omega
        have d3 : IntKind.u8.wrap (2 ^ s) = (e2 : Int) := by
          have : ((2 : Int) ^ s) = (e2 : Int) := by rw [he2]; simp
          rw [this, IntKind.wrap_u8]
          omega
        have d4 : IntKind.u8.wrap ((y : Int) + (e2 : Int)) = (y2 : Int) := by rw [IntKind.wrap_u8]; omega
        have k3 : (0 : Int) ≤ (ib : Int) := by omega
        have k4 : (ib : Int) < (nb : Int) := by omega
        have k5 : (s : Int) ≤ 8 := by omega
        have k6 : (0 : Int) ≤ (s : Int) := by omega
        have k7 : (s : Int) < 8 := by omega
        have HY := hidden hy3
        have HIB := hidden hib
        clear hib hs hy he2 hy2 hy3
        go_wp2
        refine wp_region_still_tail 10 (by kernel_rfl) (by kernel_rfl) ?_
        change wpStill Tryd.prog _ wr.drew (fun a' => wpList Tryd.prog _ _ _ a' wr.drew) _ _
        simp only [List.take_succ_cons, List.take_zero, List.drop_succ_cons, List.drop_zero]
        repeat still_step
        refine wpStill_nil ?_
        go_wp2
        go_roundw
        case rel =>
          refine ⟨k + 1, by omega, by go_num, ?_, HK.out.drew.setNew (p := ⟨w.heap.size, ib, none⟩) (Nat.le_refl _) _⟩
          have := blk_set (w := wr.drew) (j := ib) HB.out (.int .u8 (y2 : Int))
          rw [byA_set] at this
          rw [byA_ext (o := bk t (k + 1)) (p := fun j => if j = ib then y2 else bk t k j) (fun i _ => ?_)]
          · exact this
          · show bk t (k + 1) i = if i = ib then y2 else bk t k i
            by_cases e : i = ib
            · rw [if_pos e, e, HY.out]
            · rw [if_neg e]
              exact bk_other (by rw [← HIB.out]; exact e)
        case measure => simp [intOf]; omega
    · have he : k = count := by omega
      subst he
      have y5 : ¬ (k : Int) < (k : Int) := by omega
      have hcv := by_text (cap := nb) HB.out (fun i _ => bk_lt _ _ _)
      go_wp2
      go_returns
      exact ⟨rfl, HK.out⟩
end Go.Proofs.YtbmbdidmbdanmaaDoor
