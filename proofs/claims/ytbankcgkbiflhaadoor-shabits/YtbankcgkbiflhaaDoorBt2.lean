/- The document's Bits, walked. -/
import Derived.Test.YtbankcgkbiflhaaDoorBt1
namespace Go.Proofs.YtbankcgkbiflhaaDoor
open Go.RowKit
set_option linter.unusedVariables false

/-- A byte of which s bits stay, when t of its bits were looked at. -/
def db (s t b : Nat) : Nat := if t ≤ s then b else b / 2 ^ (8 - s) * 2 ^ (8 - s) + b % 2 ^ (8 - t)
theorem db_lt : ∀ s, s < 9 → ∀ t, t < 9 → ∀ b, b < 256 → db s t b < 256 := by decide +kernel
theorem db_clear : ∀ t, t < 8 → ∀ s, s < t + 1 → ∀ b, b < 256 → db s t b &&& (255 - 128 / 2 ^ t) = db s (t + 1) b := by decide +kernel
theorem db_keep (s t b : Nat) (h : t + 1 ≤ s) : db s t b = db s (t + 1) b := by unfold db; rw [if_pos (by omega), if_pos h]
theorem db_0 (s b : Nat) : db s 0 b = b := if_pos (by omega)
theorem db_8 : ∀ s, s < 9 → ∀ b, b < 256 → db s 8 b = kb s b := by decide +kernel
/-- How many bits of byte k were looked at behind i. -/
def seen (i k : Nat) : Nat := min (i - 8 * k) 8
set_option maxHeartbeats 1000000 in
set_option maxRecDepth 100000 in
theorem bitsD_any (l : List UInt8) (hl : l.length = 32) (n : Int) (h1 : -9223372036854775808 ≤ n) (h2 : n ≤ 9223372036854775807) (w : World) : Calls Tryd.prog 19 #[.agg (l.map U8).toArray, .int .i64 n] w fun e w' => e = .returned (.agg ((bitsL n l).map U8).toArray) ∧ Same w w' := by
  have HB := hidden (bitsL_row n l)
  rw [row_map l hl]
  obtain ⟨r, hr⟩ : ∃ r, w.heap.size = r := ⟨_, rfl⟩
  have B0 : Hid (∀ X Y : Obj, ((w.alloc X).alloc Y).heap[r]? = some X) := hidden (fun X Y => by rw [← hr]; exact blk_alloc (blk_new w X) Y)
  have B1 : Hid (∀ X Y : Obj, ((w.alloc X).alloc Y).heap[r + 1]? = some Y) := hidden (fun X Y => by have := blk_new (w.alloc X) Y; simpa [hr] using this)
  obtain ⟨f, hf⟩ : ∃ f, f = fun k => (l.getD k 0).toNat := ⟨_, rfl⟩
  rw [← hf]
  have HB2 : Hid (((bitsL n l).map U8).toArray = mapRow (fun k => kb (stayN n k) (f k))) := hidden (by rw [hf]; exact HB.out)
  have Hfl : Hid (∀ k, f k < 256) := hidden (fun k => by rw [hf]; exact (l.getD k 0).toNat_lt)
  clear hf HB
  go_enter Tryd.func19, Tryd.ntmps19
  go_wp2
  go_loopw [5] (fun x wr => ∃ i : Nat, i ≤ 256 ∧ x = .int .i64 i ∧ wr.heap[r]? = some (.cells (mapRow (fun k => db (stayN n k) (seen i k) (f k))) 24 (0, 0)) ∧ wr.heap[r + 1]? = some (.cells (row32 [] 0) 24 (0, 0)) ∧ Same w wr) (fun x _ => 256 - (intOf x).toNat)
  case atStart => exact ⟨0, by omega, rfl, by rw [mapRow_congr (fun k => db (stayN n k) (seen 0 k) (f k)) f (fun k _ => by unfold seen; rw [show min (0 - 8 * k) 8 = 0 by omega, db_0])]; exact B0.out _ _, B1.out _ (.cells (row32 [] 0) 24), (same_alloc _ _).alloc _⟩
  case round =>
    obtain ⟨i, hi, rfl, hb0, hb1, hS⟩ := hrel
    have Hb0 := hidden hb0
    have Hb1 := hidden hb1
    have HS := hidden hS
    by_cases hlt : i < 256
    · obtain ⟨k, hk⟩ : ∃ k, k = i / 8 := ⟨_, rfl⟩
      obtain ⟨p, hp⟩ : ∃ p, p = i % 8 := ⟨_, rfl⟩
      have hk32 : k < 32 := by omega
      have hsn : seen i k = p := by unfold seen; omega
      have hsn2 : seen (i + 1) k = p + 1 := by unfold seen; omega
      have hoth : ∀ j, j ≠ k → seen (i + 1) j = seen i j := fun j hj => by unfold seen; omega
      have hfk := Hfl.out k
      have hst := stayN_le n k
      have k1 : (i : Int) < 256 := by omega
      by_cases hni : n ≤ (i : Int)
      · have hsp : stayN n k < p + 1 := by unfold stayN; omega
        have hcl := db_clear p (by omega) (stayN n k) hsp (f k) hfk
        have hol := db_lt (stayN n k) (by omega) p (by omega) (f k) hfk
        have hnw := db_lt (stayN n k) (by omega) (p + 1) (by omega) (f k) hfk
        have HPut := hidden (mapRow_put (fun k => db (stayN n k) (seen i k) (f k)) (fun k => db (stayN n k) (seen (i + 1) k) (f k)) k hk32 (db (stayN n k) (p + 1) (f k)) (by rw [hsn2]) (fun j _ hj => by rw [hoth j hj]))
        have cw : wr.cell? ⟨r, k, none⟩ = some (.int .u8 (db (stayN n k) p (f k) : Nat)) := (blk_cell hb0).trans (by rw [mapRow_at _ _ hk32, hsn, U8, UInt8.toNat_ofNat', Nat.mod_eq_of_lt hol])
        have fw : wr.frozen? ⟨r, k, none⟩ = false := blk_free hb0
        obtain ⟨c, hc⟩ : ∃ c, c = 128 / 2 ^ p := ⟨_, rfl⟩
        have hc8 : c < 256 := by rw [hc]; exact Nat.lt_of_le_of_lt (Nat.div_le_self _ _) (by decide)
        rw [← hc] at hcl
        have q1 := u8_andNot_nat (db (stayN n k) p (f k)) c hol hc8
        rw [hcl] at q1
        have q2 : (128 : Int) / 2 ^ p = (c : Int) := by rw [hc]; simp
        generalize db (stayN n k) (p + 1) (f k) = z at *
        generalize db (stayN n k) p (f k) = old at *
        have e1 : (i : Int) / 8 = (k : Int) := by omega
        have e1' : (i : Int).tdiv 8 = (k : Int) := by rw [Int.tdiv_eq_ediv_of_nonneg (by omega)]; omega
        have e2 : (i : Int) % 8 = (p : Int) := by omega
        have e2' : (i : Int).tmod 8 = (p : Int) := by rw [Int.tmod_eq_emod_of_nonneg (by omega)]; omega
        have e3 : IntKind.i64.wrap (k : Int) = (k : Int) := by rw [IntKind.wrap_i64]; omega
        have e4 : IntKind.i64.wrap (p : Int) = (p : Int) := by rw [IntKind.wrap_i64]; omega
        have k2 : (k : Int) < 32 := by omega
        have k3 : (p : Int) < 8 := by omega
        have Hz := hidden hnw
        clear hb0 hb1 hS hk hp hsn hsn2 hoth hst hsp hc hcl hnw
        go_wp2
        refine wp_region_still_tail 11 (by kernel_rfl) (by kernel_rfl) ?_
        change wpStill Tryd.prog _ wr.drew (fun a' => wpList Tryd.prog _ _ _ a' wr.drew) _ _
        simp only [List.take_succ_cons, List.take_zero, List.drop_succ_cons, List.drop_zero]
        repeat still_step
        refine wpStill_nil ?_
        go_wp2
        go_roundw
        case rel =>
          refine ⟨i + 1, by omega, by go_num, ?_, blk_oth Hb1.out (by omega) _, (HS.out.setNew (p := ⟨r, k, none⟩) (by show w.heap.size ≤ r; omega) _).drew⟩
          rw [← HPut.out]
          have e : Value.int .u8 (z : Int) = U8 (UInt8.ofNat z) := by
            unfold U8
            rw [UInt8.toNat_ofNat', Nat.mod_eq_of_lt Hz.out]
          rw [e]
          exact blk_set Hb0.out _
        case measure => simp [intOf]; omega
      · have hsp : p + 1 ≤ stayN n k := by unfold stayN; omega
        have Hnx : Hid (wr.heap[r]? = some (.cells (mapRow (fun k => db (stayN n k) (seen (i + 1) k) (f k))) 24 (0, 0))) := hidden (by
          rw [mapRow_congr (fun k => db (stayN n k) (seen (i + 1) k) (f k)) (fun k => db (stayN n k) (seen i k) (f k)) (fun j hj => by
            by_cases e : j = k
            · subst e; rw [hsn, hsn2, ← db_keep _ _ _ hsp]
            · rw [hoth j e])]
          exact hb0)
        clear hb0 hb1 hS hk hp hsn hsn2 hoth hst hsp
        go_wp2
        go_roundw
        case rel => exact ⟨i + 1, by omega, by go_num, Hnx.out, Hb1.out, HS.out⟩
        case measure => simp [intOf]; omega
    · have k1 : ¬ (i : Int) < 256 := by omega
      have h32 : i = 256 := by omega
      rw [h32, mapRow_congr _ (fun k => kb (stayN n k) (f k)) (fun k hk => by unfold seen; rw [show min (256 - 8 * k) 8 = 8 by omega]; exact db_8 _ (by have := stayN_le n k; omega) _ (Hfl.out k)), ← HB2.out] at Hb0
      have hzz : ((bitsL n l).map U8).toArray.size = 32 := by simp [bitsL_len]
      have Hld := hidden (ld_row (P := Tryd.prog) (ty := 24) Hb0.out Tryd.underlying24 rfl 32 i24 hzz)
      have Hst := hidden (st_row (P := Tryd.prog) (ty := 24) Hb1.out 32 i24 rfl hzz (by rw [← row32_full _ (bitsL_len n l)]; exact row32_one _ _))
      have Hv := hidden (lv_row (setRow_heap wr (r + 1) _ ((bitsL n l).map U8).toArray _ _ Hb1.out) (P := Tryd.prog) (ty := 24) Tryd.underlying24 rfl 32 i24 hzz)
      clear hb0 hb1 hS h32 hzz
      go_wp2_with (first
        | (refine wl_load 24 _ rfl rfl _ rfl _ Hld.out ?_)
        | (refine wl_store 24 _ _ rfl rfl rfl _ rfl _ rfl Hst.out ?_))
      exact bodyPost_ret (res_row Tryd.results19 rfl Hv.out) rfl ⟨rfl, HS.out.setRow (Or.inl (by omega)) _⟩
end Go.Proofs.YtbankcgkbiflhaaDoor
