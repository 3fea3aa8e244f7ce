/- sha's schedule, walked. -/
import Derived.Test.YtbankcgkbiflhaaDoorSh1
import Derived.Test.YtbankcgkbiflhaaDoorShR
namespace Go.Proofs.YtbankcgkbiflhaaDoor
open Go.RowKit
set_option linter.unusedVariables false

def W32 (n : Nat) : Value := .int .u32 (n : Int)
/-- The row of 64 words of which the first ones are ws. -/
def row64 (ws : List Nat) : Array Value := ((ws ++ List.replicate (64 - ws.length) 0).map W32).toArray
theorem row64_size (ws : List Nat) (h : ws.length ≤ 64) : (row64 ws).size = 64 := by simp [row64]; omega
theorem row64_at (ws : List Nat) (i : Nat) (h : i < 64) : (row64 ws)[i]? = some (.int .u32 (ws.getD i 0 : Nat)) := by
  unfold row64
  rw [List.getElem?_toArray, List.getElem?_map]
  by_cases hi : i < ws.length
  · rw [List.getElem?_append_left hi, List.getElem?_eq_getElem hi, List.getD_eq_getElem?_getD, List.getElem?_eq_getElem hi]
    rfl
  · rw [List.getElem?_append_right (by omega), List.getElem?_replicate, if_pos (by omega), List.getD_eq_getElem?_getD, List.getElem?_eq_none (by omega)]
    rfl
theorem row64_put (ws : List Nat) (x : Nat) (h : ws.length < 64) : (row64 ws).setIfInBounds ws.length (.int .u32 x) = row64 (ws ++ [x]) := by
  apply Array.ext_getElem?
  intro i
  rw [Array.getElem?_setIfInBounds]
  by_cases e : ws.length = i
  · subst e
    rw [if_pos rfl, if_pos (by rw [row64_size _ (by omega)]; exact h), row64_at _ _ h, List.getD_eq_getElem?_getD]
    simp
  · rw [if_neg e]
    by_cases hi : i < 64
    · rw [row64_at _ _ hi, row64_at _ _ hi, List.getD_eq_getElem?_getD, List.getD_eq_getElem?_getD]
      by_cases hl : i < ws.length
      · rw [List.getElem?_append_left hl]
      · rw [List.getElem?_eq_none (by omega), List.getElem?_eq_none (by simp; omega)]
    · rw [Array.getElem?_eq_none (by rw [row64_size _ (by omega)]; omega), Array.getElem?_eq_none (by rw [row64_size _ (by simp; omega)]; omega)]
theorem row64_full (ws : List Nat) (h : ws.length = 64) : row64 ws = (ws.map W32).toArray := by simp [row64, h]
theorem bytes_at (l : List UInt8) (i : Nat) (h : i < l.length) : (l.map U8).toArray[i]? = some (.int .u8 ((l.getD i 0).toNat : Nat)) := by
  rw [List.getElem?_toArray, List.getElem?_map, List.getElem?_eq_getElem h, List.getD_eq_getElem?_getD, List.getElem?_eq_getElem h]
  rfl
theorem or4 (a b c d : Nat) (ha : a < 256) (hb : b < 256) (hc : c < 256) (hd : d < 256) :
    bits .or .u32 (bits .or .u32 (bits .or .u32 ((a : Int) * 16777216) ((b : Int) * 65536)) ((c : Int) * 256)) (d : Int) = ((a * 16777216 + b * 65536 + c * 256 + d : Nat) : Int) := by
  rw [show (a : Int) * 16777216 = ((a * 16777216 : Nat) : Int) by omega, show (b : Int) * 65536 = ((b * 65536 : Nat) : Int) by omega, show (c : Int) * 256 = ((c * 256 : Nat) : Int) by omega]
  have e1 : a * 16777216 ||| b * 65536 = a * 16777216 + b * 65536 := by
    rw [show a * 16777216 = 2 ^ 24 * a by omega, ← Nat.two_pow_add_eq_or_of_lt (by omega)]
  have e2 : a * 16777216 + b * 65536 ||| c * 256 = a * 16777216 + b * 65536 + c * 256 := by
    rw [show a * 16777216 + b * 65536 = 2 ^ 16 * (a * 256 + b) by omega, ← Nat.two_pow_add_eq_or_of_lt (by omega)]
  have e3 : a * 16777216 + b * 65536 + c * 256 ||| d = a * 16777216 + b * 65536 + c * 256 + d := by
    rw [show a * 16777216 + b * 65536 + c * 256 = 2 ^ 8 * (a * 65536 + b * 256 + c) by omega, ← Nat.two_pow_add_eq_or_of_lt (by omega)]
  rw [u32or _ _ (by omega) (by omega), e1, u32or _ _ (by omega) (by omega), e2, u32or _ _ (by omega) (by omega), e3]
theorem len64 (l : List UInt8) : (l.map U8).toArray.size = l.length := by simp
theorem row64_one (ws : List Nat) : (row64 ws).all (·.oneCell') = true := by
  unfold row64
  refine all_oneCell_toArray (fun v hv => ?_)
  rw [List.mem_map] at hv
  obtain ⟨n, _, rfl⟩ := hv
  rfl
theorem i64w : (Tryd.prog.info? 77).map (·.size) = some 64 := by kernel_rfl
set_option maxHeartbeats 1000000 in
set_option maxRecDepth 100000 in
theorem sched_any (l : List UInt8) (hl : l.length = 64) (w : World) : Calls Tryd.prog 56 #[.agg (l.map U8).toArray] w fun e w' => e = .returned (.agg ((wds l 64).map W32).toArray) ∧ Same w w' := by
  have HB := hidden (fun i (h : i < l.length) => bytes_at l i h)
  obtain ⟨cs, hcs⟩ : ∃ cs, cs = (l.map U8).toArray := ⟨_, rfl⟩
  rw [← hcs] at HB ⊢
  have HC := hidden hcs
  have HL := hidden hl
  clear hcs hl
  obtain ⟨g, hg⟩ : ∃ g, w.heap.size = g := ⟨_, rfl⟩
  go_enter Tryd.func56, Tryd.ntmps56
  go_wp2
  go_loopw [10] (fun x wr => ∃ t : Nat, t ≤ 16 ∧ x = .int .i64 t ∧ wr.heap[g]? = some (.cells cs 72 (0, 0)) ∧ wr.heap[g + 1]? = some (.cells (row64 []) 77 (0, 0)) ∧ wr.heap[g + 1 + 1]? = some (.cells (row64 (wds l t)) 77 (0, 0)) ∧ Same w wr) (fun x _ => 16 - (intOf x).toNat)
  case atStart =>
    refine ⟨0, by omega, rfl, ?_, ?_, ?_, ((same_alloc _ _).alloc _).alloc _⟩
    · rw [← hg]; exact blk_alloc (blk_alloc (blk_new _ _) _) _
    · have := blk_alloc (blk_new (w.alloc (.cells cs 72)) (.cells (row64 []) 77)) (.cells (row64 []) 77)
      simpa [row64, W32, hg] using this
    · have := blk_new ((w.alloc (.cells cs 72)).alloc (.cells (row64 []) 77)) (.cells (row64 []) 77)
      simpa [row64, W32, hg, wds] using this
  case round =>
    obtain ⟨t, ht, rfl, hb, hr, hw, hS⟩ := hrel
    have HS := hidden hS
    by_cases hlt : t < 16
    · obtain ⟨i0, h0⟩ : ∃ i, i = 4 * t := ⟨_, rfl⟩
      obtain ⟨i1, h1⟩ : ∃ i, i = 4 * t + 1 := ⟨_, rfl⟩
      obtain ⟨i2, h2⟩ : ∃ i, i = 4 * t + 2 := ⟨_, rfl⟩
      obtain ⟨i3, h3⟩ : ∃ i, i = 4 * t + 3 := ⟨_, rfl⟩
      have hl := HL.out
      have c0 : wr.cell? ⟨g, i0, none⟩ = some (.int .u8 ((l.getD i0 0).toNat : Nat)) := (blk_cell hb).trans (HB.out _ (by omega))
      have c1 : wr.cell? ⟨g, i1, none⟩ = some (.int .u8 ((l.getD i1 0).toNat : Nat)) := (blk_cell hb).trans (HB.out _ (by omega))
      have c2 : wr.cell? ⟨g, i2, none⟩ = some (.int .u8 ((l.getD i2 0).toNat : Nat)) := (blk_cell hb).trans (HB.out _ (by omega))
      have c3 : wr.cell? ⟨g, i3, none⟩ = some (.int .u8 ((l.getD i3 0).toNat : Nat)) := (blk_cell hb).trans (HB.out _ (by omega))
      have cw : wr.cell? ⟨g + 1 + 1, t, none⟩ = some (.int .u32 ((wds l t).getD t 0 : Nat)) := (blk_cell hw).trans (row64_at _ _ (by omega))
      have fw : wr.frozen? ⟨g + 1 + 1, t, none⟩ = false := blk_free hw
      have Hb := hidden hb
      have Hr := hidden hr
      have Hw := hidden hw
      have b0 := (l.getD i0 0).toNat_lt
      have b1 := (l.getD i1 0).toNat_lt
      have b2 := (l.getD i2 0).toNat_lt
      have b3 := (l.getD i3 0).toNat_lt
      have HV : Hid (wfirst l t = (l.getD i0 0).toNat * 16777216 + (l.getD i1 0).toNat * 65536 + (l.getD i2 0).toNat * 256 + (l.getD i3 0).toNat) := hidden (by subst h0 h1 h2 h3; rfl)
      generalize (l.getD i0 0).toNat = a0 at *
      generalize (l.getD i1 0).toNat = a1 at *
      generalize (l.getD i2 0).toNat = a2 at *
      generalize (l.getD i3 0).toNat = a3 at *
      generalize (wds l t).getD t 0 = old at *
      have d0 : 4 * (t : Int) = (i0 : Int) := by omega
      have d1 : (i0 : Int) + 1 = (i1 : Int) := by omega
      have d2 : (i0 : Int) + 2 = (i2 : Int) := by omega
      have d3 : (i0 : Int) + 3 = (i3 : Int) := by omega
      have k1 : (t : Int) < 16 := by omega
      have k2 : (i0 : Int) < 64 := by omega
      have k3 : (i1 : Int) < 64 := by omega
      have k4 : (i2 : Int) < 64 := by omega
      have k5 : (i3 : Int) < 64 := by omega
      have e0 : IntKind.i64.wrap (i0 : Int) = (i0 : Int) := by rw [IntKind.wrap_i64]; omega
      have e1 : IntKind.i64.wrap (i1 : Int) = (i1 : Int) := by rw [IntKind.wrap_i64]; omega
      have e2 : IntKind.i64.wrap (i2 : Int) = (i2 : Int) := by rw [IntKind.wrap_i64]; omega
      have e3 : IntKind.i64.wrap (i3 : Int) = (i3 : Int) := by rw [IntKind.wrap_i64]; omega
      have r0 : IntKind.u32.wrap (a0 : Int) = (a0 : Int) := by rw [IntKind.wrap_u32']; omega
      have r1 : IntKind.u32.wrap (a1 : Int) = (a1 : Int) := by rw [IntKind.wrap_u32']; omega
      have r2 : IntKind.u32.wrap (a2 : Int) = (a2 : Int) := by rw [IntKind.wrap_u32']; omega
      have r3 : IntKind.u32.wrap (a3 : Int) = (a3 : Int) := by rw [IntKind.wrap_u32']; omega
      have q0 : IntKind.u32.wrap ((a0 : Int) * 16777216) = (a0 : Int) * 16777216 := by rw [IntKind.wrap_u32']; omega
      have q1 : IntKind.u32.wrap ((a1 : Int) * 65536) = (a1 : Int) * 65536 := by rw [IntKind.wrap_u32']; omega
      have q2 : IntKind.u32.wrap ((a2 : Int) * 256) = (a2 : Int) * 256 := by rw [IntKind.wrap_u32']; omega
      have k6 : (t : Int) < 64 := by omega
      have HO := hidden (or4 a0 a1 a2 a3 b0 b1 b2 b3)
      clear hb hr hw hS h0 h1 h2 h3 hl
      go_wp2
      refine wp_region_still_tail 31 (by kernel_rfl) (by kernel_rfl) ?_
      change wpStill Tryd.prog _ wr.drew (fun a' => wpList Tryd.prog _ _ _ a' wr.drew) _ _
      simp only [List.take_succ_cons, List.take_zero, List.drop_succ_cons, List.drop_zero]
      repeat still_step
      refine wpStill_nil ?_
      go_wp2
      go_roundw
      case rel =>
        have hl' : (wds l t).length = t := wds_len l t
        refine ⟨t + 1, by omega, by go_num, blk_oth Hb.out (by omega) _, blk_oth Hr.out (by omega) _, ?_, (HS.out.setNew (by rw [hg]; show g ≤ g + 1 + 1; omega) _).drew⟩
        rw [HO.out, ← HV.out]
        have := blk_set (j := t) Hw.out (.int .u32 (wfirst l t : Nat))
        rw [show (row64 (wds l t)).setIfInBounds t (.int .u32 (wfirst l t : Nat)) = row64 (wds l (t + 1)) by
          have e := row64_put (wds l t) (wfirst l t) (by omega)
          rw [hl'] at e
          rw [e, wds, if_pos hlt]] at this
        exact this
      case measure => simp [intOf]; omega
    · have h16 : t = 16 := by omega
      rw [h16] at hw
      clear h16 ht
      have Hb := hidden hb
      have Hr := hidden hr
      have Hw := hidden hw
      clear hb hr hw hS
      obtain ⟨w1, hw1⟩ : ∃ w1, wr = w1 := ⟨_, rfl⟩
      rw [hw1] at Hb Hr Hw HS ⊢
      clear hw1
      go_wp2
      go_loopw [5] (fun x wr => ∃ t : Nat, 16 ≤ t ∧ t ≤ 64 ∧ x = .int .i64 t ∧ wr.heap[g + 1]? = some (.cells (row64 []) 77 (0, 0)) ∧ wr.heap[g + 1 + 1]? = some (.cells (row64 (wds l t)) 77 (0, 0)) ∧ Same w wr) (fun x _ => 64 - (intOf x).toNat)
      case atStart => exact ⟨16, by omega, by omega, rfl, Hr.out, Hw.out, HS.out⟩
      case round =>
        obtain ⟨t, ht0, ht1, rfl, hr, hw, hS⟩ := hrel
        have HS := hidden hS
        have Hr := hidden hr
        have Hw := hidden hw
        by_cases hlt : t < 64
        · obtain ⟨i15, h15⟩ : ∃ i, i = t - 15 := ⟨_, rfl⟩
          obtain ⟨i2, h2⟩ : ∃ i, i = t - 2 := ⟨_, rfl⟩
          obtain ⟨i7, h7⟩ : ∃ i, i = t - 7 := ⟨_, rfl⟩
          obtain ⟨i16, h16⟩ : ∃ i, i = t - 16 := ⟨_, rfl⟩
          have c15 : wr.cell? ⟨g + 1 + 1, i15, none⟩ = some (.int .u32 ((wds l t).getD i15 0 : Nat)) := (blk_cell hw).trans (row64_at _ _ (by omega))
          have c2 : wr.cell? ⟨g + 1 + 1, i2, none⟩ = some (.int .u32 ((wds l t).getD i2 0 : Nat)) := (blk_cell hw).trans (row64_at _ _ (by omega))
          have c7 : wr.cell? ⟨g + 1 + 1, i7, none⟩ = some (.int .u32 ((wds l t).getD i7 0 : Nat)) := (blk_cell hw).trans (row64_at _ _ (by omega))
          have c16 : wr.cell? ⟨g + 1 + 1, i16, none⟩ = some (.int .u32 ((wds l t).getD i16 0 : Nat)) := (blk_cell hw).trans (row64_at _ _ (by omega))
          have cw : wr.cell? ⟨g + 1 + 1, t, none⟩ = some (.int .u32 ((wds l t).getD t 0 : Nat)) := (blk_cell hw).trans (row64_at _ _ (by omega))
          have fw : wr.frozen? ⟨g + 1 + 1, t, none⟩ = false := blk_free hw
          have b15 := getD_lt (wds_lt l t) i15
          have b2 := getD_lt (wds_lt l t) i2
          have b7 := getD_lt (wds_lt l t) i7
          have b16 := getD_lt (wds_lt l t) i16
          have HV : Hid (wnext (wds l t) = (sg1 ((wds l t).getD i2 0) + (wds l t).getD i7 0 + sg0 ((wds l t).getD i15 0) + (wds l t).getD i16 0) % 4294967296) := hidden (by subst h2 h7 h15 h16; rw [wnext, wds_len])
          generalize (wds l t).getD i15 0 = x15 at *
          generalize (wds l t).getD i2 0 = x2 at *
          generalize (wds l t).getD i7 0 = x7 at *
          generalize (wds l t).getD i16 0 = x16 at *
          generalize (wds l t).getD t 0 = old at *
          have k1 : (t : Int) < 64 := by omega
          have k2 : (16 : Int) ≤ (t : Int) := by omega
          have d15 : (t : Int) - 15 = (i15 : Int) := by omega
          have d2 : (t : Int) - 2 = (i2 : Int) := by omega
          have d7 : (t : Int) - 7 = (i7 : Int) := by omega
          have d16 : (t : Int) - 16 = (i16 : Int) := by omega
          have k15 : (i15 : Int) < 64 := by omega
          have k3 : (i2 : Int) < 64 := by omega
          have k7 : (i7 : Int) < 64 := by omega
          have k16 : (i16 : Int) < 64 := by omega
          have e15 : IntKind.i64.wrap (i15 : Int) = (i15 : Int) := by rw [IntKind.wrap_i64]; omega
          have e2 : IntKind.i64.wrap (i2 : Int) = (i2 : Int) := by rw [IntKind.wrap_i64]; omega
          have e7 : IntKind.i64.wrap (i7 : Int) = (i7 : Int) := by rw [IntKind.wrap_i64]; omega
          have e16 : IntKind.i64.wrap (i16 : Int) = (i16 : Int) := by rw [IntKind.wrap_i64]; omega
          have z0 := sg0_int x15 b15
          have z1 := sg1_int x2 b2
          have y0 := sg0_lt b15
          have y1 := sg1_lt b2
          clear hr hw hS h15 h2 h7 h16 ht0 ht1
          go_wp2
          go_quiet (fail)
          go_wp2_with (go_at_call 57; refine (ror_z _ _ (by unfold rorN; decide) (by decide) (by assumption) _).mono ?_; rintro e w2 ⟨rfl, rfl⟩)
          refine wp_region_still_tail 15 (by kernel_rfl) (by kernel_rfl) ?_
          change wpStill Tryd.prog _ (wr.drewN nq).drew (fun a' => wpList Tryd.prog _ _ _ a' (wr.drewN nq).drew) _ _
          simp only [List.take_succ_cons, List.take_zero, List.drop_succ_cons, List.drop_zero]
          repeat still_step
          refine wpStill_nil ?_
          go_wp2
          go_roundw
          case rel =>
            have hl' : (wds l t).length = t := wds_len l t
            refine ⟨t + 1, by omega, by omega, by go_num, blk_oth Hr.out (by omega) _, ?_, (HS.out.drewN nq).drew.setNew (by rw [hg]; show g ≤ g + 1 + 1; omega) _⟩
            have e : ((((sg1 x2 : Nat) : Int) + (x7 : Int) + ((sg0 x15 : Nat) : Int) + (x16 : Int)) % 4294967296) = ((wnext (wds l t) : Nat) : Int) := by rw [HV.out]; omega
            rw [e]
            have := blk_set (j := t) (blk_kept ((Kept.refl (fun _ => False) wr).drewN (nq + 1)) (fun h => h) Hw.out) (.int .u32 (wnext (wds l t) : Nat))
            rw [show (row64 (wds l t)).setIfInBounds t (.int .u32 (wnext (wds l t) : Nat)) = row64 (wds l (t + 1)) by
              have e := row64_put (wds l t) (wnext (wds l t)) (by omega)
              rw [hl'] at e
              rw [e, wds, if_neg (by omega)]] at this
            exact this
          case measure => simp [intOf]; omega
        · obtain rfl : t = 64 := by omega
          have hz := row64_size (wds l 64) (by rw [wds_len]; omega)
          have hz0 : (row64 []).size = 64 := row64_size [] (by simp)
          have hld := ld_row hw (P := Tryd.prog) (ty := 77) Tryd.underlying77 rfl 64 i64w hz
          have hst := st_row hr (P := Tryd.prog) (ty := 77) 64 i64w hz0 hz (row64_one _)
          have hv := lv_row (setRow_heap wr (g + 1) _ (row64 (wds l 64)) _ _ hr) (P := Tryd.prog) (ty := 77) Tryd.underlying77 rfl 64 i64w hz
          clear hr hw hz hz0 hlt ht0 ht1
          have HR := row64_full (wds l 64) (wds_len l 64)
          have HR := hidden HR
          generalize row64 (wds l 64) = R at *
          have Hld := hidden hld
          have Hst := hidden hst
          have Hv := hidden hv
          clear hld hst hv
          go_wp2_with (first
            | (refine wl_load 77 _ rfl rfl _ rfl _ Hld.out ?_)
            | (refine wl_store 77 _ _ rfl rfl rfl _ rfl _ rfl Hst.out ?_))
          exact bodyPost_ret (v := .agg R) (res_row Tryd.results56 rfl Hv.out) rfl ⟨by rw [HR.out], HS.out.setRow (Or.inl (by omega)) _⟩
end Go.Proofs.YtbankcgkbiflhaaDoor
