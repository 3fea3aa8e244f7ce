/- sha's Parse, walked. -/
import Derived.Test.YtbankcgkbiflhaaDoorPrP
namespace Go.Proofs.YtbankcgkbiflhaaDoor
open Go.RowKit
set_option linter.unusedVariables false

theorem res_row2 {P : Program} {fn : Func} {a : Act} {w : World} {s g u : Nat} {ty : TypeId} {v x : Value} (hr : fn.results = #[.cell s ty, .tmp u]) (hx : a.tmps[s]?.getD undef = .pointer (some ⟨g, 0, none⟩)) (hv : (loadVar ty ⟨g, 0, none⟩).run P w = .ok v w) (hu : a.tmps[u]?.getD undef = x) : (results fn a.tmps).run P w = .ok (.tuple #[v, x]) w := by
  simp [results, hr, asAddr, hx, hv, hu]
theorem str_at (s : ByteArray) (W : World) (j : Nat) (h : j < s.size) : (Instr.index 9 (.string s) (.int .i64 (j : Int))).run Tryd.prog W = .ok (.int .u8 (at' s.data.toList j : Nat)) W := by
  rw [run_index_string (h := Tryd.underlying9), dif_pos (by omega)]
  unfold at'
  rw [List.getD_eq_getElem?_getD, List.getElem?_eq_getElem (by rw [size_list]; exact h)]
  rfl
theorem or_dig (a b : Nat) (ha : a < 16) (hb : b < 16) : bits .or .u8 ((a : Int) * 16) (b : Int) = ((a * 16 + b : Nat) : Int) := by
  rw [show (a : Int) * 16 = ((a * 16 : Nat) : Int) by omega, u8_or_nat _ _ (by omega) (by omega), show a * 16 = 2 ^ 4 * a by omega, ← Nat.two_pow_add_eq_or_of_lt (by omega)]
theorem row32_zero (l : List UInt8) : row32 l 0 = ((List.replicate 32 (0 : UInt8)).map U8).toArray := rfl
set_option maxHeartbeats 1000000 in
set_option maxRecDepth 100000 in
theorem parse_any (s : ByteArray) (hs : s.size ≤ 140737488355328) (w : World) : Calls Tryd.prog 14 #[.string s] w fun e w' => e = .returned (.tuple #[.agg ((parV s.data.toList).map U8).toArray, .bool (okS s.data.toList)]) ∧ Same w w' := by
  have hsl : s.data.toList.length = s.size := size_list s
  obtain ⟨L, hL⟩ : ∃ L, L = s.data.toList := ⟨_, rfl⟩
  have HAt := hidden (str_at s)
  rw [← hL] at hsl HAt ⊢
  have HLl := hidden hsl
  clear hL hsl
  obtain ⟨r, hr⟩ : ∃ r, w.heap.size = r := ⟨_, rfl⟩
  have hvl := valS_len L
  have Hvl := hidden hvl
  clear hvl
  -- the end of every way: what lies in the result's block is told
  have HEnd : Hid (∀ (W : World) (l : List UInt8), l.length = 32 → W.heap[r]? = some (.cells (l.map U8).toArray 24 (0, 0)) → (loadVar 24 ⟨r, 0, none⟩).run Tryd.prog W = .ok (.agg (l.map U8).toArray) W) := hidden (fun W l hl hb => lv_row hb Tryd.underlying24 rfl 32 i24 (by simp [hl]))
  have B0 : Hid (∀ X Y : Obj, ((w.alloc X).alloc Y).heap[r]? = some X) := hidden (fun X Y => by rw [← hr]; exact blk_alloc (blk_new w X) Y)
  have B1 : Hid (∀ X Y : Obj, ((w.alloc X).alloc Y).heap[r + 1]? = some Y) := hidden (fun X Y => by have := blk_new (w.alloc X) Y; simpa [hr] using this)
  have Hz : Hid (∀ (W : World) (k : Nat) (l : List UInt8), l.length = 32 → k ≤ 32 → W.heap[r]? = some (.cells (row32 l k) 24 (0, 0)) → (Instr.storeAt 24 (.pointer (some ⟨r, 0, none⟩)) (.agg (row32 [] 0))).run Tryd.prog W = .ok () (W.setRow r (row32 [] 0))) := hidden (fun W k l hl hk hb => st_row hb 32 i24 (row32_size l hl k hk) rfl (row32_one _ _))
  by_cases h64 : s.size = 64
  · have k0 : (s.size : Int) = 64 := by omega
    go_enter Tryd.func14, Tryd.ntmps14
    go_wp2
    go_loopw [14] (fun x wr => ∃ i : Nat, i ≤ 32 ∧ x = .int .i64 i ∧ (∀ j, j < 2 * i → dgb (at' L j) = true) ∧ wr.heap[r]? = some (.cells (row32 (valS L) 0) 24 (0, 0)) ∧ wr.heap[r + 1]? = some (.cells (row32 (valS L) i) 24 (0, 0)) ∧ Same w wr) (fun x _ => 32 - (intOf x).toNat)
    case atStart => exact ⟨0, by omega, rfl, fun j hj => by omega, B0.out (.cells (row32 (valS L) 0) 24) _, B1.out _ (.cells (row32 (valS L) 0) 24), (same_alloc _ _).alloc _⟩
    case round =>
      obtain ⟨i, hi, rfl, hdg, hb0, hb1, hS⟩ := hrel
      have Hdg := hidden hdg
      have Hb0 := hidden hb0
      have Hb1 := hidden hb1
      have HS := hidden hS
      by_cases hlt : i < 32
      · obtain ⟨j0, hj0⟩ : ∃ j, j = 2 * i := ⟨_, rfl⟩
        obtain ⟨j1, hj1⟩ : ∃ j, j = 2 * i + 1 := ⟨_, rfl⟩
        have x0 := fun W => HAt.out W j0 (by omega)
        have x1 := fun W => HAt.out W j1 (by omega)
        have c0 : at' L j0 < 256 := (L.getD j0 0).toNat_lt
        have c1 : at' L j1 < 256 := (L.getD j1 0).toNat_lt
        have HN0 := hidden (okS_no L j0 (by omega))
        have HN1 := hidden (okS_no L j1 (by omega))
        have HVi : Hid ((valS L).getD i 0 = UInt8.ofNat (dgv (at' L j0) * 16 + dgv (at' L j1))) := hidden (by rw [valS_at L i hlt, hj0, hj1])
        have HDn : Hid (dgb (at' L j0) = true → dgb (at' L j1) = true → ∀ j, j < 2 * (i + 1) → dgb (at' L j) = true) := hidden (fun h0 h1 j hj => by
          by_cases e : j < 2 * i
          · exact Hdg.out j e
          · by_cases e2 : j = j0
            · rw [e2]; exact h0
            · rw [show j = j1 by omega]; exact h1)
        have v0 := dgv_lt (at' L j0)
        have v1 := dgv_lt (at' L j1)
        have D0 := hidden (fun W => digit_any (at' L j0) c0 W)
        have D1 := hidden (fun W => digit_any (at' L j1) c1 W)
        generalize dgv (at' L j0) = y0 at *
        generalize dgv (at' L j1) = y1 at *
        have d0 : 2 * (i : Int) = (j0 : Int) := by omega
        have d1 : (j0 : Int) + 1 = (j1 : Int) := by omega
        have e0 : IntKind.i64.wrap (j0 : Int) = (j0 : Int) := by rw [IntKind.wrap_i64]; omega
        have e1 : IntKind.i64.wrap (j1 : Int) = (j1 : Int) := by rw [IntKind.wrap_i64]; omega
        have k1 : (i : Int) < 32 := by omega
        have q0 : IntKind.u8.wrap ((y0 : Int) * 16) = (y0 : Int) * 16 := by rw [IntKind.wrap_u8']; omega
        have q1 := or_dig y0 y1 v0 v1
        obtain ⟨z, hz⟩ : ∃ z, z = y0 * 16 + y1 := ⟨_, rfl⟩
        rw [← hz] at q1 HVi
        have hz2 : z < 256 := by omega
        obtain ⟨old, hold⟩ := row32_at (valS L) Hvl.out i i (by omega) hlt
        have cw : wr.cell? ⟨r + 1, i, none⟩ = some (U8 old) := (blk_cell hb1).trans hold
        have fw : wr.frozen? ⟨r + 1, i, none⟩ = false := blk_free hb1
        have Hz2 := hidden hz2
        clear hdg hb0 hb1 hS hj0 hj1 c0 c1 hz hold hz2 v0 v1
        generalize at' L j0 = a0 at *
        generalize at' L j1 = a1 at *
        by_cases gg : dgb a0 = true ∧ dgb a1 = true
        · obtain ⟨g0, g1⟩ := gg
          rw [g0] at D0
          rw [g1] at D1
          have HDD := hidden (HDn.out g0 g1)
          have HPut := hidden (row32_put (valS L) Hvl.out i hlt)
          have tok : True := trivial
          clear g0 g1
          go_wp2_with (first
            | (go_at_call 27; have _t := tok; refine (D0.out _).mono ?_; rintro e w2 ⟨rfl, rfl⟩; clear tok)
            | (go_at_call 27; refine (D1.out _).mono ?_; rintro e w2 ⟨rfl, rfl⟩)
            | (refine wl_store 24 _ _ rfl rfl rfl _ rfl (row32 [] 0) rfl (Hz.out _ 0 (valS L) Hvl.out (by omega) Hb0.out) ?_))
          go_roundw
          case rel =>
            refine ⟨i + 1, by omega, by go_num, HDD.out, blk_oth Hb0.out (by omega) _, ?_, HS.out.setNew (p := ⟨r + 1, i, none⟩) (by show w.heap.size ≤ r + 1; omega) _⟩
            rw [← HPut.out, HVi.out]
            have e : Value.int .u8 (z : Int) = U8 (UInt8.ofNat z) := by
              unfold U8
              rw [UInt8.toNat_ofNat', Nat.mod_eq_of_lt Hz2.out]
            rw [e]
            exact blk_set Hb1.out _
          case measure => simp [intOf]; omega
        · cases g0 : dgb a0 with
          | false =>
            rw [g0] at D0
            have HNo : Hid (okS L = false) := hidden (HN0.out g0)
            clear g0 gg HN0 HN1 HDn
            cases g1 : dgb a1 with
            | false =>
              rw [g1] at D1
              clear g1
              have HP : Hid (parV L = List.replicate 32 0) := hidden (by unfold parV; rw [HNo.out]; rfl)
              have tok : True := trivial
              go_wp2_with (first
                | (go_at_call 27; have _t := tok; refine (D0.out _).mono ?_; rintro e w2 ⟨rfl, rfl⟩; clear tok)
                | (go_at_call 27; refine (D1.out _).mono ?_; rintro e w2 ⟨rfl, rfl⟩)
                | (refine wl_store 24 _ _ rfl rfl rfl _ rfl (row32 [] 0) rfl (Hz.out _ 0 (valS L) Hvl.out (by omega) Hb0.out) ?_))
              exact bodyPost_ret (res_row2 Tryd.results14 rfl (HEnd.out _ (List.replicate 32 0) rfl (setRow_heap _ r _ (row32 [] 0) _ _ Hb0.out)) rfl) rfl ⟨by rw [HP.out, HNo.out]; rfl, HS.out.setRow (Or.inl (by omega)) _⟩
            | true =>
              rw [g1] at D1
              clear g1
              have HP : Hid (parV L = List.replicate 32 0) := hidden (by unfold parV; rw [HNo.out]; rfl)
              have tok : True := trivial
              go_wp2_with (first
                | (go_at_call 27; have _t := tok; refine (D0.out _).mono ?_; rintro e w2 ⟨rfl, rfl⟩; clear tok)
                | (go_at_call 27; refine (D1.out _).mono ?_; rintro e w2 ⟨rfl, rfl⟩)
                | (refine wl_store 24 _ _ rfl rfl rfl _ rfl (row32 [] 0) rfl (Hz.out _ 0 (valS L) Hvl.out (by omega) Hb0.out) ?_))
              exact bodyPost_ret (res_row2 Tryd.results14 rfl (HEnd.out _ (List.replicate 32 0) rfl (setRow_heap _ r _ (row32 [] 0) _ _ Hb0.out)) rfl) rfl ⟨by rw [HP.out, HNo.out]; rfl, HS.out.setRow (Or.inl (by omega)) _⟩
          | true =>
            rw [g0] at D0
            have g1 : dgb a1 = false := by cases h : dgb a1 with | false => rfl | true => exact absurd ⟨g0, h⟩ gg
            rw [g1] at D1
            have HNo : Hid (okS L = false) := hidden (HN1.out g1)
            clear g0 g1 gg HN0 HN1 HDn
            have HP : Hid (parV L = List.replicate 32 0) := hidden (by unfold parV; rw [HNo.out]; rfl)
            have tok : True := trivial
            go_wp2_with (first
              | (go_at_call 27; have _t := tok; refine (D0.out _).mono ?_; rintro e w2 ⟨rfl, rfl⟩; clear tok)
              | (go_at_call 27; refine (D1.out _).mono ?_; rintro e w2 ⟨rfl, rfl⟩)
              | (refine wl_store 24 _ _ rfl rfl rfl _ rfl (row32 [] 0) rfl (Hz.out _ 0 (valS L) Hvl.out (by omega) Hb0.out) ?_))
            exact bodyPost_ret (res_row2 Tryd.results14 rfl (HEnd.out _ (List.replicate 32 0) rfl (setRow_heap _ r _ (row32 [] 0) _ _ Hb0.out)) rfl) rfl ⟨by rw [HP.out, HNo.out]; rfl, HS.out.setRow (Or.inl (by omega)) _⟩
      · have k1 : ¬ (i : Int) < 32 := by omega
        have h32 : i = 32 := by omega
        rw [h32] at Hdg
        rw [h32, row32_full _ Hvl.out] at Hb1
        have HY : Hid (okS L = true) := hidden (okS_yes L (by rw [HLl.out]; exact h64) (fun j hj => Hdg.out j (by omega)))
        have HP : Hid (parV L = valS L) := hidden (by unfold parV; rw [HY.out]; rfl)
        have hzz : ((valS L).map U8).toArray.size = 32 := by simp [Hvl.out]
        have Hld := hidden (ld_row (P := Tryd.prog) (ty := 24) Hb1.out Tryd.underlying24 rfl 32 i24 hzz)
        have Hst := hidden (st_row (P := Tryd.prog) (ty := 24) Hb0.out 32 i24 (row32_size _ Hvl.out 0 (by omega)) hzz (by rw [← row32_full _ Hvl.out]; exact row32_one _ _))
        clear hdg hb0 hb1 hS h32 hzz
        go_wp2_with (first
          | (refine wl_load 24 _ rfl rfl _ rfl _ Hld.out ?_)
          | (refine wl_store 24 _ _ rfl rfl rfl _ rfl _ rfl Hst.out ?_))
        exact bodyPost_ret (res_row2 Tryd.results14 rfl (HEnd.out _ (valS L) Hvl.out (setRow_heap _ r _ _ _ _ Hb0.out)) rfl) rfl ⟨by rw [HP.out, HY.out]; rfl, HS.out.setRow (Or.inl (by omega)) _⟩
  · have k0 : ¬ (s.size : Int) = 64 := by omega
    have HN : Hid (okS L = false) := hidden (okS_len L (by rw [HLl.out]; exact h64))
    have HP : Hid (parV L = List.replicate 32 0) := hidden (by unfold parV; rw [HN.out]; rfl)
    go_enter Tryd.func14, Tryd.ntmps14
    go_wp2_with (refine wl_store 24 _ _ rfl rfl rfl _ rfl (row32 [] 0) rfl (Hz.out _ 0 (valS L) Hvl.out (by omega) (B0.out (.cells (row32 (valS L) 0) 24) _)) ?_)
    exact bodyPost_ret (res_row2 Tryd.results14 rfl (HEnd.out _ (List.replicate 32 0) rfl (setRow_heap _ r _ (row32 [] 0) _ _ (B0.out (.cells (row32 (valS L) 0) 24) _))) rfl) rfl ⟨by rw [HP.out, HN.out]; rfl, (((same_alloc _ _).alloc _).setRow (Or.inl (by omega)) _)⟩
end Go.Proofs.YtbankcgkbiflhaaDoor
