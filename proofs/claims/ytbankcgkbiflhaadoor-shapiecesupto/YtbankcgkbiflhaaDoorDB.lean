/- The document's k and block, walked. -/
import Derived.Test.YtbankcgkbiflhaaDoorSh8
namespace Go.Proofs.YtbankcgkbiflhaaDoor
open Go.RowKit
set_option linter.unusedVariables false

set_option maxHeartbeats 1000000 in
set_option maxRecDepth 100000 in
theorem k_any (w : World) : Calls Tryd.prog 36 #[] w fun e w' => e = .returned (.agg (kws.map W32).toArray) ∧ Same w w' := by
  have Hst : Hid (∀ c : Array Value, c.size = 64 → (Instr.storeAt 77 (.pointer (some ⟨w.heap.size, 0, none⟩)) (.agg (kws.map W32).toArray)).run Tryd.prog (w.alloc (.cells c 77)) = .ok () (w.alloc (.cells (kws.map W32).toArray 77))) := hidden (fun c hc => run_storeAt_new w 77 c (kws.map W32).toArray i64w hc (W32_one _))
  have Hv := hidden (lv_row (P := Tryd.prog) (ty := 77) (blk_new w (.cells (kws.map W32).toArray 77)) Tryd.underlying77 rfl 64 i64w rfl)
  go_enter Tryd.func36, Tryd.ntmps36
  go_wp2_with (refine wl_store 77 _ _ rfl rfl rfl _ rfl (kws.map W32).toArray rfl (Hst.out _ rfl) ?_)
  exact bodyPost_ret (res_row Tryd.results36 rfl Hv.out) rfl ⟨rfl, same_alloc _ _⟩
/-- A state to whose first i words another's are added. -/
def adR (s q : S8) (i : Nat) : Array Value := ((List.range 8).map fun j => W32 (if j < i then (s.list.getD j 0 + q.list.getD j 0) % 4294967296 else s.list.getD j 0)).toArray
theorem adR_0 (s q : S8) : adR s q 0 = s.cells := rfl
theorem adR_8 (s q : S8) : adR s q 8 = (s.add q).cells := rfl
theorem adR_at (s q : S8) (i : Nat) (h : i < 8) : (adR s q i)[i]? = some (.int .u32 (s.list.getD i 0 : Nat)) := by
  unfold adR
  rw [List.getElem?_toArray, List.getElem?_map, List.getElem?_range h]
  simp [W32]
theorem adR_put (s q : S8) (i : Nat) (h : i < 8) : (adR s q i).setIfInBounds i (.int .u32 ((s.list.getD i 0 + q.list.getD i 0) % 4294967296 : Nat)) = adR s q (i + 1) := by
  apply Array.ext_getElem?
  intro j
  have hz : ∀ k, (adR s q k).size = 8 := fun k => by simp [adR]
  rw [Array.getElem?_setIfInBounds]
  by_cases e : i = j
  · subst e
    rw [if_pos rfl, if_pos (by rw [hz]; exact h)]
    unfold adR
    rw [List.getElem?_toArray, List.getElem?_map, List.getElem?_range h]
    simp [W32]
  · rw [if_neg e]
    by_cases hj : j < 8
    · unfold adR
      rw [List.getElem?_toArray, List.getElem?_map, List.getElem?_range hj, List.getElem?_toArray, List.getElem?_map, List.getElem?_range hj]
      by_cases hji : j < i
      · simp [hji, show j < i + 1 by omega]
      · simp [hji, show ¬ j < i + 1 by omega]
    · rw [Array.getElem?_eq_none (by rw [hz]; omega), Array.getElem?_eq_none (by rw [hz]; omega)]
theorem kw_at (t : Nat) (h : t < 64) : (kws.map W32).toArray[t]? = some (.int .u32 (kw t : Nat)) := W32_at kws t h
set_option maxHeartbeats 4000000 in
set_option maxRecDepth 100000 in
theorem blockD_any (s : S8) (hs : s.Ok) (l : List UInt8) (hl : l.length = 64) (gb off cap : Nat) (w : World) (hB : ∀ i, i < 64 → w.cell? ⟨gb, off + i, none⟩ = some (.int .u8 ((l.getD i 0).toNat : Nat))) : Calls Tryd.prog 26 #[.agg s.cells, .slice (some ⟨gb, off, none⟩) 64 cap] w fun e w' => e = .returned (.agg (blkS s l).cells) ∧ Same w w' := by
  have HBy := hidden hB
  have HL := hidden hl
  have HS8 := hidden hs
  have HK := hidden k_any
  clear hB hl hs
  unfold S8.cells
  obtain ⟨g, hg⟩ : ∃ g, w.heap.size = g := ⟨_, rfl⟩
  go_enter Tryd.func26, Tryd.ntmps26
  go_wp2
  go_loopw [6] (fun x wr => ∃ t : Nat, t ≤ 16 ∧ x = .int .i64 t ∧ wr.heap[g]? = some (.cells s.cells 52 (0, 0)) ∧ wr.heap[g + 1]? = some (.cells (S8.cells ⟨0, 0, 0, 0, 0, 0, 0, 0⟩) 52 (0, 0)) ∧ wr.heap[g + 1 + 1]? = some (.cells (row64 (wds l t)) 77 (0, 0)) ∧ Same w wr) (fun x _ => 16 - (intOf x).toNat)
  case atStart =>
    refine ⟨0, by omega, rfl, ?_, ?_, ?_, ((same_alloc _ _).alloc _).alloc _⟩
    · rw [← hg]; exact blk_alloc (blk_alloc (blk_new w _) _) _
    · have := blk_alloc (blk_new (w.alloc (.cells s.cells 52)) (.cells (S8.cells ⟨0, 0, 0, 0, 0, 0, 0, 0⟩) 52)) (.cells (row64 []) 77)
      simpa [row64, W32, hg, S8.cells] using this
    · have := blk_new ((w.alloc (.cells s.cells 52)).alloc (.cells (S8.cells ⟨0, 0, 0, 0, 0, 0, 0, 0⟩) 52)) (.cells (row64 []) 77)
      simpa [row64, W32, hg, wds, S8.cells] using this
  case round =>
    obtain ⟨t, ht, rfl, hb, hr, hw, hS⟩ := hrel
    have Hb := hidden hb
    have Hr := hidden hr
    have Hw := hidden hw
    have HS := hidden hS
    by_cases hlt : t < 16
    · skip
      obtain ⟨i0, h0⟩ : ∃ i, i = 4 * t := ⟨_, rfl⟩
      obtain ⟨i1, h1⟩ : ∃ i, i = 4 * t + 1 := ⟨_, rfl⟩
      obtain ⟨i2, h2⟩ : ∃ i, i = 4 * t + 2 := ⟨_, rfl⟩
      obtain ⟨i3, h3⟩ : ∃ i, i = 4 * t + 3 := ⟨_, rfl⟩
      have hl := HL.out
      have HBc : ∀ i, i < 64 → wr.cell? ⟨gb, off + i, none⟩ = some (.int .u8 ((l.getD i 0).toNat : Nat)) := fun i hi => Kept.cell HS.out (p := ⟨gb, off + i, none⟩) (fun h => h) (HBy.out i hi)
      have c0 : wr.cell? ⟨gb, off + i0, none⟩ = some (.int .u8 ((l.getD i0 0).toNat : Nat)) := HBc _ (by omega)
      have c1 : wr.cell? ⟨gb, off + i1, none⟩ = some (.int .u8 ((l.getD i1 0).toNat : Nat)) := HBc _ (by omega)
      have c2 : wr.cell? ⟨gb, off + i2, none⟩ = some (.int .u8 ((l.getD i2 0).toNat : Nat)) := HBc _ (by omega)
      have c3 : wr.cell? ⟨gb, off + i3, none⟩ = some (.int .u8 ((l.getD i3 0).toNat : Nat)) := HBc _ (by omega)
      have cw : wr.cell? ⟨g + 1 + 1, t, none⟩ = some (.int .u32 ((wds l t).getD t 0 : Nat)) := (blk_cell hw).trans (row64_at _ _ (by omega))
      have fw : wr.frozen? ⟨g + 1 + 1, t, none⟩ = false := blk_free hw
      have b0 := (l.getD i0 0).toNat_lt
      have b1 := (l.getD i1 0).toNat_lt
      have b2 := (l.getD i2 0).toNat_lt
      have b3 := (l.getD i3 0).toNat_lt
      have HV : Hid (wfirst l t = (l.getD i0 0).toNat * 16777216 + (l.getD i1 0).toNat * 65536 + (l.getD i2 0).toNat * 256 + (l.getD i3 0).toNat) := hidden (by subst h0 h1 h2 h3; rfl)
      generalize (l.getD i0 0).toNat = a0 at *
      generalize (l.getD i1 0).toNat = a1 at *
      generalize (l.getD i2 0).toNat = a2 at *
      generalize (l.getD i3 0).toNat = a3 at *
      generalize (wds l t).getD t 0 = old at *
      have d0 : 4 * (t : Int) = (i0 : Int) := by omega
      have d1 : (i0 : Int) + 1 = (i1 : Int) := by omega
      have d2 : (i0 : Int) + 2 = (i2 : Int) := by omega
      have d3 : (i0 : Int) + 3 = (i3 : Int) := by omega
      have k1 : (t : Int) < 16 := by omega
      have k2 : (i0 : Int) < 64 := by omega
      have k3 : (i1 : Int) < 64 := by omega
      have k4 : (i2 : Int) < 64 := by omega
      have k5 : (i3 : Int) < 64 := by omega
      have e0 : IntKind.i64.wrap (i0 : Int) = (i0 : Int) := by rw [IntKind.wrap_i64]; omega
      have e1 : IntKind.i64.wrap (i1 : Int) = (i1 : Int) := by rw [IntKind.wrap_i64]; omega
      have e2 : IntKind.i64.wrap (i2 : Int) = (i2 : Int) := by rw [IntKind.wrap_i64]; omega
      have e3 : IntKind.i64.wrap (i3 : Int) = (i3 : Int) := by rw [IntKind.wrap_i64]; omega
      have r0 : IntKind.u32.wrap (a0 : Int) = (a0 : Int) := by rw [IntKind.wrap_u32']; omega
      have r1 : IntKind.u32.wrap (a1 : Int) = (a1 : Int) := by rw [IntKind.wrap_u32']; omega
      have r2 : IntKind.u32.wrap (a2 : Int) = (a2 : Int) := by rw [IntKind.wrap_u32']; omega
      have r3 : IntKind.u32.wrap (a3 : Int) = (a3 : Int) := by rw [IntKind.wrap_u32']; omega
      have q0 : IntKind.u32.wrap ((a0 : Int) * 16777216) = (a0 : Int) * 16777216 := by rw [IntKind.wrap_u32']; omega
      have q1 : IntKind.u32.wrap ((a1 : Int) * 65536) = (a1 : Int) * 65536 := by rw [IntKind.wrap_u32']; omega
      have q2 : IntKind.u32.wrap ((a2 : Int) * 256) = (a2 : Int) * 256 := by rw [IntKind.wrap_u32']; omega
      have k6 : (t : Int) < 64 := by omega
      have HO := hidden (or4 a0 a1 a2 a3 b0 b1 b2 b3)
      clear hb hr hw hS h0 h1 h2 h3 hl HBc
      go_wp2
      refine wp_region_still_tail 35 (by kernel_rfl) (by kernel_rfl) ?_
      change wpStill Tryd.prog _ wr.drew (fun a' => wpList Tryd.prog _ _ _ a' wr.drew) _ _
      simp only [List.take_succ_cons, List.take_zero, List.drop_succ_cons, List.drop_zero]
      repeat still_step
      refine wpStill_nil ?_
      go_wp2
      go_roundw
      case rel =>
        have hl' : (wds l t).length = t := wds_len l t
        refine ⟨t + 1, by omega, by go_num, blk_oth Hb.out (by omega) _, blk_oth Hr.out (by omega) _, ?_, (HS.out.setNew (p := ⟨g + 1 + 1, t, none⟩) (by rw [hg]; show g ≤ g + 1 + 1; omega) _).drew⟩
        rw [HO.out, ← HV.out]
        have := blk_set (j := t) Hw.out (.int .u32 (wfirst l t : Nat))
        rw [show (row64 (wds l t)).setIfInBounds t (.int .u32 (wfirst l t : Nat)) = row64 (wds l (t + 1)) by
          have e := row64_put (wds l t) (wfirst l t) (by omega)
          rw [hl'] at e
          rw [e, wds, if_pos hlt]] at this
        exact this
      case measure => simp [intOf]; omega
    · have h16 : t = 16 := by omega
      rw [h16] at Hw
      clear h16 ht
      clear hb hr hw hS
      obtain ⟨w1, hw1⟩ : ∃ w1, wr = w1 := ⟨_, rfl⟩
      rw [hw1] at Hb Hr Hw HS ⊢
      clear hw1
      go_wp2
      go_loopw [7] (fun x wr => ∃ t : Nat, 16 ≤ t ∧ t ≤ 64 ∧ x = .int .i64 t ∧ wr.heap[g]? = some (.cells s.cells 52 (0, 0)) ∧ wr.heap[g + 1]? = some (.cells (S8.cells ⟨0, 0, 0, 0, 0, 0, 0, 0⟩) 52 (0, 0)) ∧ wr.heap[g + 1 + 1]? = some (.cells (row64 (wds l t)) 77 (0, 0)) ∧ Same w wr) (fun x _ => 64 - (intOf x).toNat)
      case atStart => exact ⟨16, by omega, by omega, rfl, Hb.out, Hr.out, Hw.out, HS.out⟩
      case round =>
        obtain ⟨t, ht0, ht1, rfl, hb, hr, hw, hS⟩ := hrel
        have Hb := hidden hb
        have Hr := hidden hr
        have Hw := hidden hw
        have HS := hidden hS
        by_cases hlt : t < 64
        · obtain ⟨i15, h15⟩ : ∃ i, i = t - 15 := ⟨_, rfl⟩
          obtain ⟨i2, h2⟩ : ∃ i, i = t - 2 := ⟨_, rfl⟩
          obtain ⟨i7, h7⟩ : ∃ i, i = t - 7 := ⟨_, rfl⟩
          obtain ⟨i16, h16⟩ : ∃ i, i = t - 16 := ⟨_, rfl⟩
          have HC : Hid (∀ W, Same wr W → W.cell? ⟨g + 1 + 1, i15, none⟩ = some (.int .u32 ((wds l t).getD i15 0 : Nat)) ∧ W.cell? ⟨g + 1 + 1, i2, none⟩ = some (.int .u32 ((wds l t).getD i2 0 : Nat)) ∧ W.cell? ⟨g + 1 + 1, i7, none⟩ = some (.int .u32 ((wds l t).getD i7 0 : Nat)) ∧ W.cell? ⟨g + 1 + 1, i16, none⟩ = some (.int .u32 ((wds l t).getD i16 0 : Nat)) ∧ W.cell? ⟨g + 1 + 1, t, none⟩ = some (.int .u32 ((wds l t).getD t 0 : Nat)) ∧ W.frozen? ⟨g + 1 + 1, t, none⟩ = false) := hidden (fun W k => by
            have hw' := blk_kept k (fun h => h) hw
            exact ⟨(blk_cell hw').trans (row64_at _ _ (by omega)), (blk_cell hw').trans (row64_at _ _ (by omega)), (blk_cell hw').trans (row64_at _ _ (by omega)), (blk_cell hw').trans (row64_at _ _ (by omega)), (blk_cell hw').trans (row64_at _ _ (by omega)), blk_free hw'⟩)
          have b15 := getD_lt (wds_lt l t) i15
          have b2 := getD_lt (wds_lt l t) i2
          have b7 := getD_lt (wds_lt l t) i7
          have b16 := getD_lt (wds_lt l t) i16
          have HV : Hid (wnext (wds l t) = (sg1 ((wds l t).getD i2 0) + (wds l t).getD i7 0 + sg0 ((wds l t).getD i15 0) + (wds l t).getD i16 0) % 4294967296) := hidden (by subst h2 h7 h15 h16; rw [wnext, wds_len])
          generalize (wds l t).getD i15 0 = x15 at *
          generalize (wds l t).getD i2 0 = x2 at *
          generalize (wds l t).getD i7 0 = x7 at *
          generalize (wds l t).getD i16 0 = x16 at *
          generalize (wds l t).getD t 0 = old at *
          have k1 : (t : Int) < 64 := by omega
          have k2 : (16 : Int) ≤ (t : Int) := by omega
          have d15 : (t : Int) - 15 = (i15 : Int) := by omega
          have d2 : (t : Int) - 2 = (i2 : Int) := by omega
          have d7 : (t : Int) - 7 = (i7 : Int) := by omega
          have d16 : (t : Int) - 16 = (i16 : Int) := by omega
          have k15 : (i15 : Int) < 64 := by omega
          have k3 : (i2 : Int) < 64 := by omega
          have k7 : (i7 : Int) < 64 := by omega
          have k16 : (i16 : Int) < 64 := by omega
          have e15 : IntKind.i64.wrap (i15 : Int) = (i15 : Int) := by rw [IntKind.wrap_i64]; omega
          have e2 : IntKind.i64.wrap (i2 : Int) = (i2 : Int) := by rw [IntKind.wrap_i64]; omega
          have e7 : IntKind.i64.wrap (i7 : Int) = (i7 : Int) := by rw [IntKind.wrap_i64]; omega
          have e16 : IntKind.i64.wrap (i16 : Int) = (i16 : Int) := by rw [IntKind.wrap_i64]; omega
          have z0 := sg0_int x15 b15
          have z1 := sg1_int x2 b2
          have y0 := sg0_lt b15
          have y1 := sg1_lt b2
          clear hb hr hw hS h15 h2 h7 h16 ht0 ht1
          obtain ⟨c15, c2, c7, c16, cw, fw⟩ := HC.out wr (Kept.refl _ _)
          go_wp2
          go_quiet ((go_at_call 35; exact Calls.quiet_of (rorD_z _ _ (by unfold rorN; decide) (by decide) (by assumption) _)))
          clear c15 c2 c7 c16 cw fw
          have Q1 := hidden ((Kept.refl (fun _ => False) wr).drewN nq)
          generalize wr.drewN nq = V1 at *
          clear nq
          obtain ⟨c15, c2, c7, c16, cw, fw⟩ := HC.out V1 Q1.out
          go_wp2
          go_quiet ((go_at_call 35; exact Calls.quiet_of (rorD_z _ _ (by unfold rorN; decide) (by decide) (by assumption) _)))
          clear c15 c2 c7 c16 cw fw
          have Q2 := hidden (Q1.out.drewN nq)
          generalize V1.drewN nq = V2 at *
          clear nq
          obtain ⟨c15, c2, c7, c16, cw, fw⟩ := HC.out V2 Q2.out
          go_wp2
          refine wp_region_still_tail 15 (by kernel_rfl) (by kernel_rfl) ?_
          change wpStill Tryd.prog _ V2.drew (fun a' => wpList Tryd.prog _ _ _ a' V2.drew) _ _
          simp only [List.take_succ_cons, List.take_zero, List.drop_succ_cons, List.drop_zero]
          repeat still_step
          refine wpStill_nil ?_
          go_wp2
          go_roundw
          case rel =>
            have hl' : (wds l t).length = t := wds_len l t
            refine ⟨t + 1, by omega, by omega, by go_num, blk_oth (blk_kept Q2.out (fun h => h) Hb.out) (by omega) _, blk_oth (blk_kept Q2.out (fun h => h) Hr.out) (by omega) _, ?_, ((Kept.trans HS.out Q2.out).setNew (p := ⟨g + 1 + 1, t, none⟩) (by rw [hg]; show g ≤ g + 1 + 1; omega) _).drew⟩
            have e : ((((sg1 x2 : Nat) : Int) + (x7 : Int) + ((sg0 x15 : Nat) : Int) + (x16 : Int)) % 4294967296) = ((wnext (wds l t) : Nat) : Int) := by rw [HV.out]; omega
            rw [e]
            have := blk_set (j := t) (blk_kept Q2.out (fun h => h) Hw.out) (.int .u32 (wnext (wds l t) : Nat))
            rw [show (row64 (wds l t)).setIfInBounds t (.int .u32 (wnext (wds l t) : Nat)) = row64 (wds l (t + 1)) by
              have e := row64_put (wds l t) (wnext (wds l t)) (by omega)
              rw [hl'] at e
              rw [e, wds, if_neg (by omega)]] at this
            exact this
          case measure => simp [intOf]; omega
        · have h64 : t = 64 := by omega
          rw [h64, row64_full _ (wds_len l 64)] at Hw
          have k1 : ¬ (t : Int) < 64 := by omega
          clear h64 ht0 ht1 hb hr hw hS
          have hzk : (kws.map W32).toArray.size = 64 := rfl
          have HKW := hidden (W32_one kws)
          have HKz := hidden hzk
          obtain ⟨KW, hKW⟩ : ∃ KW, KW = (kws.map W32).toArray := ⟨_, rfl⟩
          have HKa := hidden kw_at
          rw [← hKW] at HK HKW HKz HKa
          obtain ⟨WW, hWW⟩ : ∃ WW, WW = ((wds l 64).map W32).toArray := ⟨_, rfl⟩
          have HWa := hidden (W32_at (wds l 64))
          rw [← hWW] at HWa Hw
          clear hKW hWW hzk
          have HSO : Hid (s.cells.all (·.oneCell') = true) := hidden (by simp [S8.cells, Value.oneCell'])
          go_wp2_with (first
            | (go_at_call 36; refine (HK.out _).mono ?_; rintro e w2 ⟨rfl, k2⟩; have Hb2 := hidden (blk_kept k2 (fun h => h) Hb.out); have Hr2 := hidden (blk_kept k2 (fun h => h) Hr.out); have Hw2 := hidden (blk_kept k2 (fun h => h) Hw.out); have HS2 := hidden (Kept.trans HS.out k2); clear k2 Hb Hr Hw HS)
            | (refine wl_store 77 _ _ rfl rfl rfl _ rfl KW rfl (run_storeAt_new w2 77 _ KW (by rw [i64w, HKz.out]) (by rw [HKz.out]; rfl) HKW.out) ?_; have Hb3 := hidden (blk_alloc Hb2.out (.cells KW 77)); have Hr3 := hidden (blk_alloc Hr2.out (.cells KW 77)); have Hw3 := hidden (blk_alloc Hw2.out (.cells KW 77)); have Hk3 := hidden (blk_new w2 (.cells KW 77)); have HS3 := hidden (HS2.out.alloc (.cells KW 77)); clear Hb2 Hr2 Hw2 HS2; obtain ⟨gk, hgk⟩ : ∃ gk, w2.heap.size = gk := ⟨_, rfl⟩; rw [hgk] at Hk3 ⊢; generalize w2.alloc (.cells KW 77) = W3 at *; clear hgk)
            | (refine wl_load 52 _ rfl rfl _ rfl s.cells (ld_row Hb3.out Tryd.underlying52 rfl 8 i8w rfl) ?_)
            | (refine wl_store 52 _ _ rfl rfl rfl _ rfl s.cells rfl (run_storeAt_new W3 52 _ s.cells i8w rfl HSO.out) ?_; have Hb4 := hidden (blk_alloc Hb3.out (.cells s.cells 52)); have Hr4 := hidden (blk_alloc Hr3.out (.cells s.cells 52)); have Hw4 := hidden (blk_alloc Hw3.out (.cells s.cells 52)); have Hk4 := hidden (blk_alloc Hk3.out (.cells s.cells 52)); have Hs4 := hidden (blk_new W3 (.cells s.cells 52)); have HS4 := hidden (HS3.out.alloc (.cells s.cells 52)); have Hl1 := blk_lt Hb3.out; have Hl2 := blk_lt Hr3.out; have Hl3 := blk_lt Hw3.out; have Hl4 := blk_lt Hk3.out; clear Hb3 Hr3 Hw3 Hk3 HS3; obtain ⟨gs, hgs⟩ : ∃ gs, W3.heap.size = gs := ⟨_, rfl⟩; rw [hgs] at Hs4 Hl1 Hl2 Hl3 Hl4 ⊢; generalize W3.alloc (.cells s.cells 52) = W4 at *; clear hgs))
          clear HBy
          go_loopw [12] (fun x wr => ∃ t : Nat, t ≤ 64 ∧ x = .int .i64 t ∧ wr.heap[gs]? = some (.cells (rnds s (wds l 64) t).cells 52 (0, 0)) ∧ Kept (fun k => k = gs) W4 wr) (fun x _ => 64 - (intOf x).toNat)
          case atStart => exact ⟨0, by omega, rfl, Hs4.out, Kept.refl _ _⟩
          case round =>
            obtain ⟨t, ht, rfl, hbs, hK⟩ := hrel
            have Hbs := hidden hbs
            have HKp := hidden hK
            have HOk := hidden (rnds_ok HS8.out (wds l 64) t)
            by_cases hlt : t < 64
            · have HN : Hid (rnds s (wds l 64) (t + 1) = rnd (rnds s (wds l 64) t) (kw t) ((wds l 64).getD t 0)) := hidden rfl
              have hwl := wds_len l 64
              have HC : Hid (∀ W, Same wr W → W.heap[gs]? = some (.cells (rnds s (wds l 64) t).cells 52 (0, 0)) ∧ W.cell? ⟨gk, t, none⟩ = some (.int .u32 (kw t : Nat)) ∧ W.cell? ⟨g + 1 + 1, t, none⟩ = some (.int .u32 ((wds l 64).getD t 0 : Nat))) := hidden (fun W k => ⟨blk_kept k (fun h => h) hbs, (blk_cell (blk_kept k (fun h => h) (blk_kept hK (show ¬ gk = gs by omega) Hk4.out))).trans (HKa.out t hlt), (blk_cell (blk_kept k (fun h => h) (blk_kept hK (show ¬ g + 1 + 1 = gs by omega) Hw4.out))).trans (HWa.out t (by omega))⟩)
              have hk := kw_lt t
              have hw := getD_lt (wds_lt l 64) t
              generalize (wds l 64).getD t 0 = wt at *
              generalize kw t = kt at *
              obtain ⟨q1, hq1⟩ : ∃ q1, rnds s (wds l 64) (t + 1) = q1 := ⟨_, rfl⟩
              rw [hq1] at HN
              have HQ := hidden hq1
              clear hq1
              generalize rnds s (wds l 64) t = q at *
              obtain ⟨a, b, c, d, e, f, g', h8⟩ := q
              obtain ⟨ha, hb, hc, hd, he, hf, hg', hh⟩ := HOk.out
              simp only at ha hb hc hd he hf hg' hh
              have z0 := bg0_int a ha
              have z1 := bg1_int e he
              have zm := maj_int a b c ha hb hc
              have k1 : (t : Int) < 64 := by omega
              have e1 : IntKind.i64.wrap (t : Int) = (t : Int) := by rw [IntKind.wrap_i64]; omega
              clear hbs hK hwl ht HOk
              obtain ⟨hb1, ct, cwt⟩ := HC.out wr (Kept.refl _ _)
              obtain ⟨c0, c1, c2, c3, c4, c5, c6, c7⟩ := S8.at hb1
              simp only at c0 c1 c2 c3 c4 c5 c6 c7
              clear hb1
              go_wp2
              go_quiet ((go_at_call 35; exact Calls.quiet_of (rorD_z _ _ (by unfold rorN; decide) (by decide) (by assumption) _)))
              clear ct cwt c0 c1 c2 c3 c4 c5 c6 c7
              have Q1 := hidden ((Kept.refl (fun _ => False) wr).drewN nq)
              generalize wr.drewN nq = V1 at *
              clear nq
              obtain ⟨hb1, ct, cwt⟩ := HC.out V1 Q1.out
              obtain ⟨c0, c1, c2, c3, c4, c5, c6, c7⟩ := S8.at hb1
              simp only at c0 c1 c2 c3 c4 c5 c6 c7
              clear hb1
              go_wp2
              go_quiet ((go_at_call 35; exact Calls.quiet_of (rorD_z _ _ (by unfold rorN; decide) (by decide) (by assumption) _)))
              clear ct cwt c0 c1 c2 c3 c4 c5 c6 c7
              have Q2 := hidden (Q1.out.drewN nq)
              generalize V1.drewN nq = V2 at *
              clear nq
              obtain ⟨hb1, ct, cwt⟩ := HC.out V2 Q2.out
              obtain ⟨c0, c1, c2, c3, c4, c5, c6, c7⟩ := S8.at hb1
              simp only at c0 c1 c2 c3 c4 c5 c6 c7
              have Hb1 := hidden hb1
              have Hst : Hid (∀ cs : Array Value, cs.size = 8 → cs.all (·.oneCell') = true → (Instr.storeAt 52 (.pointer (some ⟨gs, 0, none⟩)) (.agg cs)).run Tryd.prog V2 = .ok () (V2.setRow gs cs)) := hidden (fun cs h1 h2 => st_row Hb1.out 8 i8w rfl h1 h2)
              clear hb1
              go_wp2_with (refine wl_store 52 _ _ rfl rfl rfl _ rfl _ rfl (Hst.out _ (by rfl) (by simp [Value.oneCell'])) ?_)
              go_roundw
              case rel =>
                refine ⟨t + 1, by omega, by go_num, ?_, (HKp.out.trans (Q2.out.mono (fun _ _ h => h.elim))).setRow (Or.inr rfl) _⟩
                have e2 : bits .xor .u32 (bits .and .u32 (e : Int) (f : Int)) (bits .and .u32 (bits .xor .u32 IntKind.u32.max (e : Int)) (g' : Int)) = ((chf e f g' : Nat) : Int) := chf_int e f g' he hf hg'
                have eX : ((h8 : Int) + ((bg1 e : Nat) : Int) + ((chf e f g' : Nat) : Int) + (kt : Int) + (wt : Int) + (((bg0 a : Nat) : Int) + ((maj a b c : Nat) : Int))) % 4294967296 = (((tt1 ⟨a, b, c, d, e, f, g', h8⟩ kt wt + tt2 ⟨a, b, c, d, e, f, g', h8⟩) % 4294967296 : Nat) : Int) := by simp only [tt1, tt2]; omega
                have eY : ((d : Int) + ((h8 : Int) + ((bg1 e : Nat) : Int) + ((chf e f g' : Nat) : Int) + (kt : Int) + (wt : Int))) % 4294967296 = (((d + tt1 ⟨a, b, c, d, e, f, g', h8⟩ kt wt) % 4294967296 : Nat) : Int) := by simp only [tt1]; omega
                rw [e2, eX, eY, HQ.out, HN.out]
                exact setRow_heap _ gs _ _ _ _ Hb1.out
              case measure => simp [intOf]; omega
            · have k1 : ¬ (t : Int) < 64 := by omega
              have h64 : t = 64 := by omega
              have HEq : Hid (blkS s l = s.add (rnds s (wds l 64) t)) := hidden (by rw [h64]; rfl)
              have Hb5 := hidden (blk_kept hK (show ¬ g = gs by omega) Hb4.out)
              have Hr5 := hidden (blk_kept hK (show ¬ g + 1 = gs by omega) Hr4.out)
              have HS5 := hidden (HS4.out.trans' hK (fun i hi (e : i = gs) => by omega))
              generalize rnds s (wds l 64) t = q at *
              clear h64 hbs hK ht
              obtain ⟨w5, hw5⟩ : ∃ w5, wr = w5 := ⟨_, rfl⟩
              rw [hw5] at Hb5 Hr5 HS5 Hbs ⊢
              clear hw5
              go_wp2
              go_loopw [17] (fun x wr => ∃ i : Nat, i ≤ 8 ∧ x = .int .i64 i ∧ wr.heap[g]? = some (.cells (adR s q i) 52 (0, 0)) ∧ wr.heap[gs]? = some (.cells q.cells 52 (0, 0)) ∧ wr.heap[g + 1]? = some (.cells (S8.cells ⟨0, 0, 0, 0, 0, 0, 0, 0⟩) 52 (0, 0)) ∧ Same w wr) (fun x _ => 8 - (intOf x).toNat)
              case atStart => exact ⟨0, by omega, rfl, by rw [adR_0]; exact Hb5.out, Hbs.out, Hr5.out, HS5.out⟩
              case round =>
                obtain ⟨i, hi, rfl, hb, hq, hr, hS⟩ := hrel
                have Hb := hidden hb
                have Hq := hidden hq
                have Hr := hidden hr
                have HS := hidden hS
                by_cases hli : i < 8
                · have hcb : wr.cell? ⟨g, i, none⟩ = some (.int .u32 (s.list.getD i 0 : Nat)) := (blk_cell hb).trans (adR_at s q i hli)
                  have hcq : wr.cell? ⟨gs, i, none⟩ = some (.int .u32 (q.list.getD i 0 : Nat)) := (blk_cell hq).trans (cells_at q i hli)
                  have fw : wr.frozen? ⟨g, i, none⟩ = false := blk_free hb
                  have HPut := hidden (adR_put s q i hli)
                  generalize s.list.getD i 0 = xs at *
                  generalize q.list.getD i 0 = xq at *
                  have k1 : (i : Int) < 8 := by omega
                  have e1 : IntKind.i64.wrap (i : Int) = (i : Int) := by rw [IntKind.wrap_i64]; omega
                  clear hb hq hr hS
                  go_wp2
                  refine wp_region_still_tail 9 (by kernel_rfl) (by kernel_rfl) ?_
                  change wpStill Tryd.prog _ wr.drew (fun a' => wpList Tryd.prog _ _ _ a' wr.drew) _ _
                  simp only [List.take_succ_cons, List.take_zero, List.drop_succ_cons, List.drop_zero]
                  repeat still_step
                  refine wpStill_nil ?_
                  go_wp2
                  go_roundw
                  case rel =>
                    refine ⟨i + 1, by omega, by go_num, ?_, blk_oth Hq.out (by omega) _, blk_oth Hr.out (by omega) _, (HS.out.setNew (p := ⟨g, i, none⟩) (by show w.heap.size ≤ g; omega) _).drew⟩
                    rw [← HPut.out]
                    exact blk_set Hb.out _
                  case measure => simp [intOf]; omega
                · have k1 : ¬ (i : Int) < 8 := by omega
                  have h8 : i = 8 := by omega
                  rw [h8, adR_8, ← HEq.out] at Hb
                  have Hld := hidden (ld_row (P := Tryd.prog) (ty := 52) Hb.out Tryd.underlying52 rfl 8 i8w rfl)
                  have Hst := hidden (st_row (P := Tryd.prog) (ty := 52) (cs := (blkS s l).cells) Hr.out 8 i8w rfl rfl (by simp [S8.cells, Value.oneCell']))
                  have Hv := hidden (lv_row (setRow_heap wr (g + 1) _ (blkS s l).cells _ _ Hr.out) (P := Tryd.prog) (ty := 52) Tryd.underlying52 rfl 8 i8w rfl)
                  clear hb hq hr hS h8
                  go_wp2_with (first
                    | (refine wl_load 52 _ rfl rfl _ rfl _ Hld.out ?_)
                    | (refine wl_store 52 _ _ rfl rfl rfl _ rfl _ rfl Hst.out ?_))
                  exact bodyPost_ret (res_row Tryd.results26 rfl Hv.out) rfl ⟨rfl, HS.out.setRow (Or.inl (by omega)) _⟩
end Go.Proofs.YtbankcgkbiflhaaDoor
