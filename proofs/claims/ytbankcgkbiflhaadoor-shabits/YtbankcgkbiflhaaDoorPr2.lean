/- The document's Parse, walked. -/
import Derived.Test.YtbankcgkbiflhaaDoorPr1
namespace Go.Proofs.YtbankcgkbiflhaaDoor
open Go.RowKit
set_option linter.unusedVariables false

/-- 32 bytes by their numbers. -/
def mapRow (f : Nat → Nat) : Array Value := ((List.range 32).map fun k => U8 (UInt8.ofNat (f k))).toArray
theorem mapRow_size (f : Nat → Nat) : (mapRow f).size = 32 := by simp [mapRow]
theorem mapRow_at (f : Nat → Nat) (k : Nat) (h : k < 32) : (mapRow f)[k]? = some (U8 (UInt8.ofNat (f k))) := by
  unfold mapRow
  rw [List.getElem?_toArray, List.getElem?_map, List.getElem?_range h]
  rfl
theorem mapRow_congr (f g : Nat → Nat) (h : ∀ k, k < 32 → f k = g k) : mapRow f = mapRow g := by
  apply Array.ext_getElem?
  intro k
  by_cases hk : k < 32
  · rw [mapRow_at f k hk, mapRow_at g k hk, h k hk]
  · rw [Array.getElem?_eq_none (by rw [mapRow_size]; omega), Array.getElem?_eq_none (by rw [mapRow_size]; omega)]
theorem mapRow_put (f g : Nat → Nat) (k : Nat) (hk : k < 32) (v : Nat) (hv : g k = v) (h : ∀ j, j < 32 → j ≠ k → g j = f j) : (mapRow f).setIfInBounds k (U8 (UInt8.ofNat v)) = mapRow g := by
  apply Array.ext_getElem?
  intro j
  rw [Array.getElem?_setIfInBounds]
  by_cases e : k = j
  · subst e
    rw [if_pos rfl, if_pos (by rw [mapRow_size]; exact hk), mapRow_at g k hk, hv]
  · rw [if_neg e]
    by_cases hj : j < 32
    · rw [mapRow_at f j hj, mapRow_at g j hj, h j hj (fun e' => e e'.symm)]
    · rw [Array.getElem?_eq_none (by rw [mapRow_size]; omega), Array.getElem?_eq_none (by rw [mapRow_size]; omega)]
theorem mapRow_one (f : Nat → Nat) : (mapRow f).all (·.oneCell') = true := by
  unfold mapRow
  refine all_oneCell_toArray (fun v hv => ?_)
  rw [List.mem_map] at hv
  obtain ⟨n, _, rfl⟩ := hv
  rfl
/-- Byte k behind i digits. -/
def pd (s : List UInt8) (i k : Nat) : Nat := if 2 * k + 2 ≤ i then dgv (at' s (2 * k)) * 16 + dgv (at' s (2 * k + 1)) else if 2 * k + 1 ≤ i then dgv (at' s (2 * k)) else 0
theorem pd_half (s : List UInt8) (i : Nat) : pd s i (i / 2) < 16 := by
  unfold pd
  rw [if_neg (by omega)]
  split
  · exact dgv_lt _
  · omega
theorem pd_step (s : List UInt8) (i : Nat) : pd s (i + 1) (i / 2) = pd s i (i / 2) * 16 + dgv (at' s i) := by
  unfold pd
  by_cases e : i % 2 = 0
  · rw [if_neg (by omega), if_pos (by omega), if_neg (by omega), if_neg (by omega), show 2 * (i / 2) = i by omega]
    omega
  · rw [if_pos (by omega), if_neg (by omega), if_pos (by omega), show 2 * (i / 2) + 1 = i by omega]
theorem pd_other (s : List UInt8) (i j : Nat) (h : j ≠ i / 2) : pd s (i + 1) j = pd s i j := by
  unfold pd
  by_cases e : 2 * j + 2 ≤ i
  · rw [if_pos (by omega), if_pos e]
  · rw [if_neg (by omega), if_neg e, if_neg (by omega), if_neg (by omega)]
theorem pd_64 (s : List UInt8) : mapRow (pd s 64) = ((valS s).map U8).toArray := by
  unfold mapRow valS
  rw [List.map_map]
  congr 1
theorem pd_0 (s : List UInt8) : mapRow (pd s 0) = row32 [] 0 := by
  rw [mapRow_congr (pd s 0) (fun _ => 0) (fun k _ => by unfold pd; rw [if_neg (by omega), if_neg (by omega)])]
  rfl
set_option maxHeartbeats 2000000 in
set_option maxRecDepth 100000 in
theorem parseD_any (s : ByteArray) (hs : s.size ≤ 140737488355328) (w : World) : Calls Tryd.prog 17 #[.string s] w fun e w' => e = .returned (.tuple #[.agg ((parV s.data.toList).map U8).toArray, .bool (okS s.data.toList)]) ∧ Same w w' := by
  have hsl : s.data.toList.length = s.size := size_list s
  obtain ⟨L, hL⟩ : ∃ L, L = s.data.toList := ⟨_, rfl⟩
  have HAt := hidden (str_at s)
  rw [← hL] at hsl HAt ⊢
  have HLl := hidden hsl
  clear hL hsl
  obtain ⟨r, hr⟩ : ∃ r, w.heap.size = r := ⟨_, rfl⟩
  have hvl := valS_len L
  have Hvl := hidden hvl
  clear hvl
  have HEnd : Hid (∀ (W : World) (l : List UInt8), l.length = 32 → W.heap[r]? = some (.cells (l.map U8).toArray 24 (0, 0)) → (loadVar 24 ⟨r, 0, none⟩).run Tryd.prog W = .ok (.agg (l.map U8).toArray) W) := hidden (fun W l hl hb => lv_row hb Tryd.underlying24 rfl 32 i24 (by simp [hl]))
  have B0 : Hid (∀ X Y : Obj, ((w.alloc X).alloc Y).heap[r]? = some X) := hidden (fun X Y => by rw [← hr]; exact blk_alloc (blk_new w X) Y)
  have B1 : Hid (∀ X Y : Obj, ((w.alloc X).alloc Y).heap[r + 1]? = some Y) := hidden (fun X Y => by have := blk_new (w.alloc X) Y; simpa [hr] using this)
  have Hz : Hid (∀ (W : World), W.heap[r]? = some (.cells (row32 [] 0) 24 (0, 0)) → (Instr.storeAt 24 (.pointer (some ⟨r, 0, none⟩)) (.agg (row32 [] 0))).run Tryd.prog W = .ok () (W.setRow r (row32 [] 0))) := hidden (fun W hb => st_row hb 32 i24 rfl rfl (row32_one _ _))
  have Hl : Hid (∀ (W : World), W.heap[r + 1]? = some (.cells (row32 [] 0) 24 (0, 0)) → (Instr.loadAt 24 (.pointer (some ⟨r + 1, 0, none⟩))).run Tryd.prog W = .ok (.agg (row32 [] 0)) W) := hidden (fun W hb => ld_row hb Tryd.underlying24 rfl 32 i24 rfl)
  by_cases h64 : s.size = 64
  · have k0 : (s.size : Int) = 64 := by omega
    go_enter Tryd.func17, Tryd.ntmps17
    go_wp2
    go_loopw [5] (fun x wr => ∃ i : Nat, i ≤ 64 ∧ x = .int .i64 i ∧ (∀ j, j < i → dgb (at' L j) = true) ∧ wr.heap[r]? = some (.cells (row32 [] 0) 24 (0, 0)) ∧ wr.heap[r + 1]? = some (.cells (mapRow (pd L i)) 24 (0, 0)) ∧ Same w wr) (fun x _ => 64 - (intOf x).toNat)
    case atStart => exact ⟨0, by omega, rfl, fun j hj => by omega, B0.out (.cells (row32 [] 0) 24) _, by rw [pd_0]; exact B1.out _ (.cells (row32 [] 0) 24), (same_alloc _ _).alloc _⟩
    case round =>
      obtain ⟨i, hi, rfl, hdg, hb0, hb1, hS⟩ := hrel
      have Hdg := hidden hdg
      have Hb0 := hidden hb0
      have Hb1 := hidden hb1
      have HS := hidden hS
      by_cases hlt : i < 64
      · have x0 := fun W => HAt.out W i (by omega)
        have c0 : at' L i < 256 := (L.getD i 0).toNat_lt
        have HN0 := hidden (okS_no L i (by omega))
        have HDn : Hid (dgb (at' L i) = true → ∀ j, j < i + 1 → dgb (at' L j) = true) := hidden (fun h0 j hj => by
          by_cases e : j < i
          · exact Hdg.out j e
          · rw [show j = i by omega]; exact h0)
        obtain ⟨k, hk⟩ : ∃ k, k = i / 2 := ⟨_, rfl⟩
        have hst := pd_step L i
        have hhf := pd_half L i
        rw [← hk] at hst hhf
        have HPut := hidden (mapRow_put (pd L i) (pd L (i + 1)) k (by omega) _ hst (fun j _ hj => pd_other L i j (by omega)))
        have cw : wr.cell? ⟨r + 1, k, none⟩ = some (.int .u8 (pd L i k : Nat)) := (blk_cell hb1).trans (by rw [mapRow_at _ _ (by omega), U8, UInt8.toNat_ofNat', Nat.mod_eq_of_lt (by omega)])
        have fw : wr.frozen? ⟨r + 1, k, none⟩ = false := blk_free hb1
        have HV : Hid (dgv (at' L i) = if 48 ≤ at' L i ∧ at' L i ≤ 57 then at' L i - 48 else if 97 ≤ at' L i ∧ at' L i ≤ 102 then at' L i - 87 else 0) := hidden rfl
        have HB : Hid (dgb (at' L i) = ((decide (48 ≤ at' L i) && decide (at' L i ≤ 57)) || (decide (97 ≤ at' L i) && decide (at' L i ≤ 102)))) := hidden rfl
        have hdl := dgv_lt (at' L i)
        generalize pd L i k = old at *
        generalize dgv (at' L i) = dv at *
        generalize dgb (at' L i) = db at *
        generalize at' L i = c at *
        have d1 : (i : Int) / 2 = (k : Int) := by omega
        have d1' : (i : Int).tdiv 2 = (k : Int) := by rw [Int.tdiv_eq_ediv_of_nonneg (by omega)]; omega
        have k1 : (i : Int) < 64 := by omega
        have k2 : (k : Int) < 32 := by omega
        have e1 : IntKind.i64.wrap (k : Int) = (k : Int) := by rw [IntKind.wrap_i64]; omega
        have q0 : IntKind.u8.wrap ((old : Int) * 16) = (old : Int) * 16 := by rw [IntKind.wrap_u8']; omega
        have Hk := hidden hk
        have HF : Hid (∀ z : Int, z = ((old * 16 + dv : Nat) : Int) → Value.int .u8 z = U8 (UInt8.ofNat (old * 16 + dv))) := hidden (fun z hz => by rw [hz]; unfold U8; rw [UInt8.toNat_ofNat', Nat.mod_eq_of_lt (by omega)])
        clear hdg hb0 hb1 hS hst hk
        by_cases h1 : 48 ≤ c ∧ c ≤ 57
        · obtain ⟨h1, h2⟩ := h1
          have hdv : dv = c - 48 := by rw [HV.out, if_pos ⟨h1, h2⟩]
          have HDD := hidden (HDn.out (by rw [HB.out]; simp [h1, h2]))
          have m1 : (48 : Int) ≤ (c : Int) := by omega
          have m2 : (c : Int) ≤ 57 := by omega
          have m3 : IntKind.u8.wrap ((c : Int) - 48) = (c : Int) - 48 := by rw [IntKind.wrap_u8']; omega
          have m4 : IntKind.u8.wrap ((old : Int) * 16 + ((c : Int) - 48)) = (old : Int) * 16 + ((c : Int) - 48) := by rw [IntKind.wrap_u8']; omega
          have Hdv := hidden hdv
          clear hdv hdl
          go_wp2
          go_roundw
          case rel =>
            refine ⟨i + 1, by omega, by go_num, HDD.out, blk_oth Hb0.out (by omega) _, ?_, HS.out.setNew (p := ⟨r + 1, k, none⟩) (by show w.heap.size ≤ r + 1; omega) _⟩
            rw [← HPut.out, HF.out _ (by have := Hdv.out; omega)]
            exact blk_set Hb1.out _
          case measure => simp [intOf]; omega
        · by_cases h3 : 97 ≤ c ∧ c ≤ 102
          · obtain ⟨h3, h4⟩ := h3
            have hdv : dv = c - 87 := by rw [HV.out, if_neg h1, if_pos ⟨h3, h4⟩]
            have HDD := hidden (HDn.out (by rw [HB.out]; simp [h3, h4]))
            have m0 : (48 : Int) ≤ (c : Int) := by omega
            have m0' : ¬ (c : Int) ≤ 57 := by omega
            have m1 : (97 : Int) ≤ (c : Int) := by omega
            have m2 : (c : Int) ≤ 102 := by omega
            have m3 : IntKind.u8.wrap ((c : Int) - 97) = (c : Int) - 97 := by rw [IntKind.wrap_u8']; omega
            have m5 : IntKind.u8.wrap ((c : Int) - 97 + 10) = (c : Int) - 97 + 10 := by rw [IntKind.wrap_u8']; omega
            have m4 : IntKind.u8.wrap ((old : Int) * 16 + ((c : Int) - 97 + 10)) = (old : Int) * 16 + ((c : Int) - 97 + 10) := by rw [IntKind.wrap_u8']; omega
            have Hdv := hidden hdv
            clear hdv hdl h1
            go_wp2
            go_roundw
            case rel =>
              refine ⟨i + 1, by omega, by go_num, HDD.out, blk_oth Hb0.out (by omega) _, ?_, HS.out.setNew (p := ⟨r + 1, k, none⟩) (by show w.heap.size ≤ r + 1; omega) _⟩
              rw [← HPut.out, HF.out _ (by have := Hdv.out; omega)]
              exact blk_set Hb1.out _
            case measure => simp [intOf]; omega
          · have hno : okS L = false := HN0.out (by rw [HB.out]; by_cases a1 : 48 ≤ c <;> by_cases a2 : c ≤ 57 <;> by_cases a3 : 97 ≤ c <;> by_cases a4 : c ≤ 102 <;> simp_all)
            have HNo := hidden hno
            have HP : Hid (parV L = List.replicate 32 0) := hidden (by unfold parV; rw [HNo.out]; rfl)
            clear hno
            have ht : c < 48 ∨ (57 < c ∧ c < 97) ∨ 102 < c := by omega
            rcases ht with ht | ⟨ht, ht2⟩ | ht
            · have m0 : ¬ (48 : Int) ≤ (c : Int) := by omega
              have m1 : ¬ (97 : Int) ≤ (c : Int) := by omega
              clear h1 h3 hdl
              go_wp2_with (refine wl_store 24 _ _ rfl rfl rfl _ rfl (row32 [] 0) rfl (Hz.out _ Hb0.out) ?_)
              exact bodyPost_ret (res_row2 Tryd.results17 rfl (HEnd.out _ (List.replicate 32 0) rfl (setRow_heap _ r _ (row32 [] 0) _ _ Hb0.out)) rfl) rfl ⟨by rw [HP.out, HNo.out]; rfl, HS.out.setRow (Or.inl (by omega)) _⟩
            · have m0 : (48 : Int) ≤ (c : Int) := by omega
              have m0' : ¬ (c : Int) ≤ 57 := by omega
              have m1 : ¬ (97 : Int) ≤ (c : Int) := by omega
              clear h1 h3 hdl
              go_wp2_with (refine wl_store 24 _ _ rfl rfl rfl _ rfl (row32 [] 0) rfl (Hz.out _ Hb0.out) ?_)
              exact bodyPost_ret (res_row2 Tryd.results17 rfl (HEnd.out _ (List.replicate 32 0) rfl (setRow_heap _ r _ (row32 [] 0) _ _ Hb0.out)) rfl) rfl ⟨by rw [HP.out, HNo.out]; rfl, HS.out.setRow (Or.inl (by omega)) _⟩
            · have m0 : (48 : Int) ≤ (c : Int) := by omega
              have m0' : ¬ (c : Int) ≤ 57 := by omega
              have m1 : (97 : Int) ≤ (c : Int) := by omega
              have m2 : ¬ (c : Int) ≤ 102 := by omega
              clear h1 h3 hdl
              go_wp2_with (refine wl_store 24 _ _ rfl rfl rfl _ rfl (row32 [] 0) rfl (Hz.out _ Hb0.out) ?_)
              exact bodyPost_ret (res_row2 Tryd.results17 rfl (HEnd.out _ (List.replicate 32 0) rfl (setRow_heap _ r _ (row32 [] 0) _ _ Hb0.out)) rfl) rfl ⟨by rw [HP.out, HNo.out]; rfl, HS.out.setRow (Or.inl (by omega)) _⟩
      · have k1 : ¬ (i : Int) < 64 := by omega
        have h6 : i = 64 := by omega
        rw [h6] at Hdg
        rw [h6, pd_64] at Hb1
        have HY : Hid (okS L = true) := hidden (okS_yes L (by rw [HLl.out]; exact h64) (fun j hj => Hdg.out j hj))
        have HP : Hid (parV L = valS L) := hidden (by unfold parV; rw [HY.out]; rfl)
        have hzz : ((valS L).map U8).toArray.size = 32 := by simp [Hvl.out]
        have Hld := hidden (ld_row (P := Tryd.prog) (ty := 24) Hb1.out Tryd.underlying24 rfl 32 i24 hzz)
        have Hst := hidden (st_row (P := Tryd.prog) (ty := 24) Hb0.out 32 i24 rfl hzz (by rw [← row32_full _ Hvl.out]; exact row32_one _ _))
        clear hdg hb0 hb1 hS h6 hzz
        go_wp2_with (first
          | (refine wl_load 24 _ rfl rfl _ rfl _ Hld.out ?_)
          | (refine wl_store 24 _ _ rfl rfl rfl _ rfl _ rfl Hst.out ?_))
        exact bodyPost_ret (res_row2 Tryd.results17 rfl (HEnd.out _ (valS L) Hvl.out (setRow_heap _ r _ _ _ _ Hb0.out)) rfl) rfl ⟨by rw [HP.out, HY.out]; rfl, HS.out.setRow (Or.inl (by omega)) _⟩
  · have k0 : ¬ (s.size : Int) = 64 := by omega
    have HN : Hid (okS L = false) := hidden (okS_len L (by rw [HLl.out]; exact h64))
    have HP : Hid (parV L = List.replicate 32 0) := hidden (by unfold parV; rw [HN.out]; rfl)
    go_enter Tryd.func17, Tryd.ntmps17
    go_wp2_with (first
      | (refine wl_load 24 _ rfl rfl _ rfl (row32 [] 0) (Hl.out _ (B1.out _ (.cells (row32 [] 0) 24))) ?_)
      | (refine wl_store 24 _ _ rfl rfl rfl _ rfl (row32 [] 0) rfl (Hz.out _ (B0.out (.cells (row32 [] 0) 24) _)) ?_))
    exact bodyPost_ret (res_row2 Tryd.results17 rfl (HEnd.out _ (List.replicate 32 0) rfl (setRow_heap _ r _ (row32 [] 0) _ _ (B0.out (.cells (row32 [] 0) 24) _))) rfl) rfl ⟨by rw [HP.out, HN.out]; rfl, (((same_alloc _ _).alloc _).setRow (Or.inl (by omega)) _)⟩
end Go.Proofs.YtbankcgkbiflhaaDoor
