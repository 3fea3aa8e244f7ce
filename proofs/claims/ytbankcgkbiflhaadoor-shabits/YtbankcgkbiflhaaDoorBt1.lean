/- The first bits of a sum: pure, and sha's Bits, walked. -/
import Derived.Test.YtbankcgkbiflhaaDoorPr2
namespace Go.Proofs.YtbankcgkbiflhaaDoor
open Go.RowKit
set_option linter.unusedVariables false

/-- How many bits of byte k stay. -/
def stayN (n : Int) (k : Nat) : Nat := (min (max (n - 8 * (k : Int)) 0) 8).toNat
theorem stayN_le (n : Int) (k : Nat) : stayN n k ≤ 8 := by unfold stayN; omega
def kb (s b : Nat) : Nat := b / 2 ^ (8 - s) * 2 ^ (8 - s)
theorem kb_lt {s b : Nat} (h : b < 256) : kb s b < 256 := Nat.lt_of_le_of_lt (Nat.div_mul_le_self _ _) h
def bitsL (n : Int) (l : List UInt8) : List UInt8 := (List.range 32).map fun k => UInt8.ofNat (kb (stayN n k) (l.getD k 0).toNat)
theorem bitsL_len (n : Int) (l : List UInt8) : (bitsL n l).length = 32 := by simp [bitsL]
theorem bitsL_row (n : Int) (l : List UInt8) : ((bitsL n l).map U8).toArray = mapRow (fun k => kb (stayN n k) (l.getD k 0).toNat) := by
  unfold bitsL mapRow
  rw [List.map_map]
  congr 1
theorem bitsL_at (n : Int) (l : List UInt8) (k : Nat) (h : k < 32) : (bitsL n l).getD k 0 = UInt8.ofNat (kb (stayN n k) (l.getD k 0).toNat) := by
  unfold bitsL
  rw [List.getD_eq_getElem?_getD, List.getElem?_map, List.getElem?_range h]
  rfl
theorem row_map (l : List UInt8) (hl : l.length = 32) : (l.map U8).toArray = mapRow (fun k => (l.getD k 0).toNat) := by
  apply Array.ext_getElem?
  intro k
  by_cases hk : k < 32
  · rw [mapRow_at _ k hk, bytes_at l k (by omega), U8, UInt8.ofNat_toNat]
  · rw [Array.getElem?_eq_none (by simp [hl]; omega), Array.getElem?_eq_none (by rw [mapRow_size]; omega)]
theorem kb_kb : ∀ s, s < 9 → ∀ t, t < 9 → ∀ b, b < 256 → kb t (kb s b) = kb (min s t) b := by decide +kernel
theorem and_hi : ∀ d, d < 9 → ∀ b, b < 256 → b &&& (255 * 2 ^ d % 256) = b / 2 ^ d * 2 ^ d := by decide +kernel
theorem bits_bits (n m : Int) (l : List UInt8) : bitsL m (bitsL n l) = bitsL (if m < n then m else n) l := by
  unfold bitsL
  apply List.map_congr_left
  intro k hk
  rw [List.mem_range] at hk
  have e := bitsL_at n l k hk
  unfold bitsL at e
  rw [e]
  have hb := (l.getD k 0).toNat_lt
  have h1 := kb_lt (s := stayN n k) hb
  rw [UInt8.toNat_ofNat', Nat.mod_eq_of_lt h1, kb_kb _ (by have := stayN_le n k; omega) _ (by have := stayN_le m k; omega) _ hb]
  congr 2
  unfold stayN
  split <;> omega
theorem and_int (d b : Nat) (hd : d < 9) (hb : b < 256) : bits .and .u8 (b : Int) (IntKind.u8.wrap (255 * 2 ^ d)) = ((b / 2 ^ d * 2 ^ d : Nat) : Int) := by
  rw [IntKind.wrap_u8', show ((255 : Int) * 2 ^ d % 256) = ((255 * 2 ^ d % 256 : Nat) : Int) by simp, u8_and_nat _ _ hb (Nat.mod_lt _ (by decide)), and_hi d hd b hb]
set_option maxHeartbeats 1000000 in
set_option maxRecDepth 100000 in
theorem bits_any (l : List UInt8) (hl : l.length = 32) (n : Int) (h1 : -9223372036854775808 ≤ n) (h2 : n ≤ 9223372036854775807) (w : World) : Calls Tryd.prog 18 #[.agg (l.map U8).toArray, .int .i64 n] w fun e w' => e = .returned (.agg ((bitsL n l).map U8).toArray) ∧ Same w w' := by
  have HB := hidden (bitsL_row n l)
  rw [row_map l hl]
  obtain ⟨r, hr⟩ : ∃ r, w.heap.size = r := ⟨_, rfl⟩
  have B0 : Hid (∀ X Y : Obj, ((w.alloc X).alloc Y).heap[r]? = some X) := hidden (fun X Y => by rw [← hr]; exact blk_alloc (blk_new w X) Y)
  have B1 : Hid (∀ X Y : Obj, ((w.alloc X).alloc Y).heap[r + 1]? = some Y) := hidden (fun X Y => by have := blk_new (w.alloc X) Y; simpa [hr] using this)
  obtain ⟨a, ha⟩ : ∃ a : Int, a = max n 0 := ⟨_, rfl⟩
  obtain ⟨m, hm⟩ : ∃ m : Nat, (m : Int) = min a 256 := ⟨(min a 256).toNat, by omega⟩
  have x1 : ∀ ts t W, (Builtin.max_ ts t #[.int .i64 n, .int .i64 0]).run Tryd.prog W = .ok (.int .i64 a) W := fun ts t W => by rw [run_max_int2]; congr 2; split <;> omega
  have x2 : ∀ ts t W, (Builtin.min_ ts t #[.int .i64 a, .int .i64 256]).run Tryd.prog W = .ok (.int .i64 (m : Int)) W := fun ts t W => by rw [run_min_int2]; congr 2; split <;> omega
  have hmb : m ≤ 256 := by omega
  have HSt : Hid (∀ k : Nat, stayN n k = (min (max ((m : Int) - 8 * (k : Int)) 0) 8).toNat ∨ 32 ≤ k) := hidden (fun k => by
    by_cases hk : k < 32
    · left
      unfold stayN
      omega
    · right
      omega)
  obtain ⟨f, hf⟩ : ∃ f, f = fun k => (l.getD k 0).toNat := ⟨_, rfl⟩
  rw [← hf]
  have HB2 : Hid (((bitsL n l).map U8).toArray = mapRow (fun k => kb (stayN n k) (f k))) := hidden (by rw [hf]; exact HB.out)
  have Hfl : Hid (∀ k, f k < 256) := hidden (fun k => by rw [hf]; exact (l.getD k 0).toNat_lt)
  clear hf hm ha HB
  go_enter Tryd.func18, Tryd.ntmps18
  go_wp2
  go_loopw [10] (fun x wr => ∃ i : Nat, i ≤ 32 ∧ x = .int .i64 i ∧ wr.heap[r]? = some (.cells (mapRow (fun k => if k < i then kb (stayN n k) (f k) else f k)) 24 (0, 0)) ∧ wr.heap[r + 1]? = some (.cells (row32 [] 0) 24 (0, 0)) ∧ Same w wr) (fun x _ => 32 - (intOf x).toNat)
  case atStart => exact ⟨0, by omega, rfl, by rw [mapRow_congr _ f (fun k _ => if_neg (by omega))]; exact B0.out _ _, B1.out _ (.cells (row32 [] 0) 24), (same_alloc _ _).alloc _⟩
  case round =>
    obtain ⟨i, hi, rfl, hb0, hb1, hS⟩ := hrel
    have Hb0 := hidden hb0
    have Hb1 := hidden hb1
    have HS := hidden hS
    by_cases hlt : i < 32
    · have hst : stayN n i = (min (max ((m : Int) - 8 * (i : Int)) 0) 8).toNat := (HSt.out i).resolve_right (by omega)
      obtain ⟨v, hv⟩ : ∃ v : Int, v = (m : Int) - 8 * (i : Int) := ⟨_, rfl⟩
      rw [← hv] at hst
      obtain ⟨a2, ha2⟩ : ∃ a2 : Int, a2 = max v 0 := ⟨_, rfl⟩
      obtain ⟨st, hst2⟩ : ∃ st, st = stayN n i := ⟨_, rfl⟩
      have y1 : ∀ ts t W, (Builtin.max_ ts t #[.int .i64 v, .int .i64 0]).run Tryd.prog W = .ok (.int .i64 a2) W := fun ts t W => by rw [run_max_int2]; congr 2; split <;> omega
      have y2 : ∀ ts t W, (Builtin.min_ ts t #[.int .i64 a2, .int .i64 8]).run Tryd.prog W = .ok (.int .i64 (st : Int)) W := fun ts t W => by rw [run_min_int2]; congr 2; split <;> omega
      have hst8 : st ≤ 8 := by omega
      obtain ⟨d, hd⟩ : ∃ d, d = 8 - st := ⟨_, rfl⟩
      have hfi := Hfl.out i
      have cw : wr.cell? ⟨r, i, none⟩ = some (.int .u8 (f i : Nat)) := (blk_cell hb0).trans (by rw [mapRow_at _ _ hlt, if_neg (by omega), U8, UInt8.toNat_ofNat', Nat.mod_eq_of_lt hfi])
      have fw : wr.frozen? ⟨r, i, none⟩ = false := blk_free hb0
      have HPut := hidden (mapRow_put (fun k => if k < i then kb (stayN n k) (f k) else f k) (fun k => if k < i + 1 then kb (stayN n k) (f k) else f k) i hlt (kb (stayN n i) (f i)) (by rw [if_pos (by omega)]) (fun j _ hj => by
        by_cases e : j < i
        · rw [if_pos (by omega), if_pos e]
        · rw [if_neg (by omega), if_neg e]))
      have q1 := and_int d (f i) (by omega) hfi
      obtain ⟨z, hz⟩ : ∃ z, z = kb (stayN n i) (f i) := ⟨_, rfl⟩
      have hq : f i / 2 ^ d * 2 ^ d = z := by rw [hz, ← hst2, kb, hd]
      rw [hq] at q1
      rw [← hz] at HPut
      have Hz := hidden (show z < 256 by rw [hz]; exact kb_lt hfi)
      generalize f i = b at *
      have k1 : (i : Int) < 32 := by omega
      have e1 : IntKind.i64.wrap (i : Int) = (i : Int) := by rw [IntKind.wrap_i64]; omega
      have e2 : (m : Int) - 8 * (i : Int) = v := hv.symm
      have e3 : IntKind.i64.wrap v = v := by rw [IntKind.wrap_i64]; omega
      have e4 : (8 : Int) - (st : Int) = (d : Int) := by omega
      have e5 : IntKind.i64.wrap (d : Int) = (d : Int) := by rw [IntKind.wrap_i64]; omega
      have k2 : (d : Int) < 9 := by omega
      clear hb0 hb1 hS hst hv ha2 hst2 hd hz hq
      go_wp2
      refine wp_region_still_tail 8 (by kernel_rfl) (by kernel_rfl) ?_
      change wpStill Tryd.prog _ wr.drew (fun a' => wpList Tryd.prog _ _ _ a' wr.drew) _ _
      simp only [List.take_succ_cons, List.take_zero, List.drop_succ_cons, List.drop_zero]
      repeat still_step
      refine wpStill_nil ?_
      go_wp2
      go_roundw
      case rel =>
        refine ⟨i + 1, by omega, by go_num, ?_, blk_oth Hb1.out (by omega) _, (HS.out.setNew (p := ⟨r, i, none⟩) (by show w.heap.size ≤ r; omega) _).drew⟩
        rw [← HPut.out]
        have e : Value.int .u8 (z : Int) = U8 (UInt8.ofNat z) := by
          unfold U8
          rw [UInt8.toNat_ofNat', Nat.mod_eq_of_lt Hz.out]
        rw [e]
        exact blk_set Hb0.out _
      case measure => simp [intOf]; omega
    · have k1 : ¬ (i : Int) < 32 := by omega
      have h32 : i = 32 := by omega
      rw [h32, mapRow_congr _ (fun k => kb (stayN n k) (f k)) (fun k hk => if_pos hk), ← HB2.out] at Hb0
      have hzz : ((bitsL n l).map U8).toArray.size = 32 := by simp [bitsL_len]
      have Hld := hidden (ld_row (P := Tryd.prog) (ty := 24) Hb0.out Tryd.underlying24 rfl 32 i24 hzz)
      have Hst := hidden (st_row (P := Tryd.prog) (ty := 24) Hb1.out 32 i24 rfl hzz (by rw [← row32_full _ (bitsL_len n l)]; exact row32_one _ _))
      have Hv := hidden (lv_row (setRow_heap wr (r + 1) _ ((bitsL n l).map U8).toArray _ _ Hb1.out) (P := Tryd.prog) (ty := 24) Tryd.underlying24 rfl 32 i24 hzz)
      clear hb0 hb1 hS h32 hzz
      go_wp2_with (first
        | (refine wl_load 24 _ rfl rfl _ rfl _ Hld.out ?_)
        | (refine wl_store 24 _ _ rfl rfl rfl _ rfl _ rfl Hst.out ?_))
      exact bodyPost_ret (res_row Tryd.results18 rfl Hv.out) rfl ⟨rfl, HS.out.setRow (Or.inl (by omega)) _⟩
end Go.Proofs.YtbankcgkbiflhaaDoor
