/- The document's first and Next, walked. -/
import Derived.Test.YtdmekpokgnieeaaDoorCut5
namespace Go.Proofs.YtdmekpokgnieeaaDoor
open Go.RowKit
set_option linter.unusedVariables false
attribute [local go_sem ↓] Go.wp_at_zero Go.wp_at_succ

theorem gear_mix (s : Nat) (b : UInt8) : mixN ((s + b.toNat) % 18446744073709551616) = gearN s b := rfl
theorem sum_int (s n : Nat) (hs : s < 18446744073709551616) (hn : n < 256) : IntKind.u64.wrap ((s : Int) + IntKind.u64.wrap (n : Int)) = (((s + n) % 18446744073709551616 : Nat) : Int) := by
  rw [IntKind.wrap_u64, IntKind.wrap_u64]
  omega
theorem cut_fin (c : Shp) (l : List UInt8) (i h : Nat) (t : Bool) (n k : Nat) (hmn : c.mn ≤ i) (hG : c.grow 0 0 l = (c.mn + (c.grow c.mn 0 (l.drop c.mn)).1, (c.grow c.mn 0 (l.drop c.mn)).2))
    (hR : c.grow c.mn 0 (l.drop c.mn) = (i - c.mn + (c.grow i h (l.drop i)).1, (c.grow i h (l.drop i)).2)) (hB : c.grow i h (l.drop i) = (0, t, n, k)) : c.cut l = i ∧ (c.grow 0 0 l).2.1 = t := by
  rw [hB] at hR
  rw [hR] at hG
  unfold Shp.cut
  rw [hG]
  exact ⟨by show c.mn + (i - c.mn + 0) = i; omega, rfl⟩
theorem ret_two {a b : Int} {p q : Bool} (h : a = b) (k : p = q) : Ending.returned (.tuple #[.int .i64 a, .bool p]) = .returned (.tuple #[.int .i64 b, .bool q]) := by rw [h, k]
theorem wrap_two (j : Nat) (h : j ≤ 16) : wrap64 ((2 : Int) ^ j) = ((2 ^ j : Nat) : Int) := by
  have e : (2 : Int) ^ j = ((2 ^ j : Nat) : Int) := by simp
  have : 2 ^ j ≤ 2 ^ 16 := Nat.pow_le_pow_right (by decide) h
  rw [e]
  generalize 2 ^ j = x at *
  exact IntWalk.wrap64_in _ ⟨by omega, by omega⟩
set_option maxHeartbeats 4000000 in
set_option maxRecDepth 100000 in
theorem refFirst_few (c : Shp) (hc : c.Ok) {w : World} {v : Value} {l : List UInt8} (hb : Byt w v l) (hl : l.length ≤ 140737488355328) (hf : l.length ≤ c.mn ∧ l.length < c.mx) :
    Calls Tryd.prog 22 #[.agg #[.int .i64 c.mn, .int .i64 c.no, .int .i64 c.mx, .int .u64 c.seed], v] w fun e w' => e = .returned (.tuple #[.int .i64 (c.cut l : Nat), .bool (c.grow 0 0 l).2.1]) ∧ Same w w' := by
  have hg := c.grow_few hc l 0 0 (by omega)
  rw [Nat.zero_add, decide_eq_false (by omega)] at hg
  have HG : Hid (c.cut l = l.length ∧ (c.grow 0 0 l).2.1 = false) := hidden ⟨by unfold Shp.cut; rw [hg], by rw [hg]⟩
  clear hg
  obtain ⟨a, cap, rfl, hcap, _⟩ := hb.form
  obtain ⟨h1, h2⟩ := hf
  generalize c.mn = mn at *
  generalize c.mx = mx at *
  go_enter Tryd.func22, Tryd.ntmps22
  go_wp2
  go_returns
  rw [HG.out.1, HG.out.2]
  exact ⟨rfl, same_alloc _ _⟩
set_option maxHeartbeats 4000000 in
set_option maxRecDepth 100000 in
theorem refFirst_more (c : Shp) (hc : c.Ok) {w : World} {v : Value} {l : List UInt8} (hb : Byt w v l) (hl : l.length ≤ 140737488355328) (hf : ¬ (l.length ≤ c.mn ∧ l.length < c.mx)) :
    Calls Tryd.prog 22 #[.agg #[.int .i64 c.mn, .int .i64 c.no, .int .i64 c.mx, .int .u64 c.seed], v] w fun e w' => e = .returned (.tuple #[.int .i64 (c.cut l : Nat), .bool (c.grow 0 0 l).2.1]) ∧ Same w w' := by
  have hmn2 := hc.mn2
  have hmx1 := hc.mx1
  have hge : c.mn ≤ l.length := by omega
  have hg := c.grow_skip hc c.mn l 0 0 (by omega) hge
  rw [Nat.zero_add] at hg
  have HG := hidden hg
  have HC := hidden hc
  clear hg
  have HBY := hidden hb
  obtain ⟨a, cap, rfl, hcap, hcell⟩ := hb.form
  have HCE := hidden hcell
  have hnl := hc.no_le
  have hmxl := hc.mx_le
  have hsd := hc.sd
  have hk1 := hc.k1
  have hk2 := hc.k2
  have HPW := hidden hc.pow
  obtain ⟨W, hW⟩ : ∃ W, W = w.alloc (.cells #[.int .i64 c.mn, .int .i64 c.no, .int .i64 c.mx, .int .u64 c.seed] 24) := ⟨_, rfl⟩
  have HWk : Hid (Same w W) := hidden (by rw [hW]; exact same_alloc _ _)
  have HWB : Hid (W.heap[w.heap.size]? = some (.cells #[.int .i64 c.mn, .int .i64 c.no, .int .i64 c.mx, .int .u64 c.seed] 24 (0, 0))) := hidden (by rw [hW]; exact blk_new w _)
  have hfb : (decide ((l.length : Int) ≤ (c.mn : Int)) && decide ((l.length : Int) < (c.mx : Int))) = false := by simp; omega
  have hcs : (l.length ≤ c.mn ∧ ¬ l.length < c.mx) ∨ c.mn < l.length := by omega
  clear hb hcell hc
  rcases hcs with ⟨e1, e2⟩ | hlt
  all_goals
    have HF := hidden hf
    clear hf
    go_enter Tryd.func22, Tryd.ntmps22
    go_wp2
    rw [← hW]
    clear hW
    go_loopw [7] (fun x wr => ∃ j : Nat, j ≤ c.k ∧ x = .int .i64 j ∧ Same W wr) (fun x _ => c.k - (intOf x).toNat)
    case atStart => exact ⟨0, Nat.zero_le _, rfl, Kept.refl _ _⟩
    case round =>
      obtain ⟨j, hj, rfl, hS⟩ := hrel
      have hBr := blk_kept hS (fun h => h) HWB.out
      have b0 : wr.cell? ⟨w.heap.size, 0, none⟩ = some (.int .i64 c.mn) := blk_cell hBr
      have b1 : wr.cell? ⟨w.heap.size, 1, none⟩ = some (.int .i64 c.no) := blk_cell hBr
      have b2 : wr.cell? ⟨w.heap.size, 2, none⟩ = some (.int .i64 c.mx) := blk_cell hBr
      have b3 : wr.cell? ⟨w.heap.size, 3, none⟩ = some (.int .u64 c.seed) := blk_cell hBr
      have HS := hidden hS
      clear hBr hS
      by_cases hjk : j < c.k
      · have hlt2 : 2 ^ j < c.no := by rw [HPW.out]; exact Nat.pow_lt_pow_right (by decide) hjk
        have HD : Hid (decide (wrap64 ((2 : Int) ^ j) < (c.no : Int)) = true) := hidden (decide_eq_true (by rw [wrap_two j (by omega)]; omega))
        clear hlt2
        go_wp2
        go_quiet (fail)
        rw [HD.out]
        go_wp2
        go_roundw
        case rel => exact ⟨j + 1, by omega, by go_num, HS.out.drewN _⟩
        case measure => simp [intOf]; omega
      · obtain rfl : j = c.k := by omega
        have HD : Hid (decide (wrap64 ((2 : Int) ^ c.k) < (c.no : Int)) = false) := hidden (decide_eq_false (by rw [wrap_two c.k (by omega), HPW.out]; omega))
        go_wp2
        go_quiet (fail)
        rw [HD.out]
        by_cases hmm : c.mx < l.length
        all_goals try (exfalso; omega)
        all_goals
          go_wp2
          have HS2 : Hid (Same W (wr.drewN nq)) := hidden (HS.out.drewN _)
          clear HS b0 b1 b2 b3
          generalize wr.drewN nq = WL at *
          go_loopw [9, 10] (fun hh ii wr => ∃ (i h : Nat), c.mn ≤ i ∧ i ≤ min l.length c.mx ∧ ii = .int .i64 i ∧ hh = .int .u64 h ∧ h < 18446744073709551616 ∧ Same W wr ∧ c.grow c.mn 0 (l.drop c.mn) = (i - c.mn + (c.grow i h (l.drop i)).1, (c.grow i h (l.drop i)).2)) (fun _ ii _ => l.length - (intOf ii).toNat)
          case atStart => exact ⟨c.mn, 0, Nat.le_refl _, by omega, rfl, rfl, by decide, HS2.out, by simp⟩
          case round =>
            obtain ⟨i, h, hi1, hi2, rfl, rfl, hh, hS, hG2⟩ := hrel
            have hBr := blk_kept hS (fun h => h) HWB.out
            have b0 : wr.cell? ⟨w.heap.size, 0, none⟩ = some (.int .i64 c.mn) := blk_cell hBr
            have b1 : wr.cell? ⟨w.heap.size, 1, none⟩ = some (.int .i64 c.no) := blk_cell hBr
            have b2 : wr.cell? ⟨w.heap.size, 2, none⟩ = some (.int .i64 c.mx) := blk_cell hBr
            have b3 : wr.cell? ⟨w.heap.size, 3, none⟩ = some (.int .u64 c.seed) := blk_cell hBr
            have HSr := hidden hS
            have HGr := hidden hG2
            clear hBr hS hG2
            by_cases hlt2 : i < min l.length c.mx
            · first
              | (exfalso; omega)
              | (
                have hi3 : i < l.length := by omega
                have hi4 : i < c.mx := by omega
                obtain ⟨b, off, rfl, hcell⟩ := HCE.out (by omega)
                have hx : l[i]? = some l[i] := List.getElem?_eq_getElem hi3
                have hxc : wr.cell? ⟨b, off + i, none⟩ = some (U8 l[i]) := HSr.out.cell (p := ⟨b, off + i, none⟩) (fun h => h) (HWk.out.cell (p := ⟨b, off + i, none⟩) (fun h => h) (hcell i _ hx))
                have HD2 := hidden (drop_cons' hx)
                unfold U8 at hxc
                have hxl := (l[i]).toNat_lt
                generalize l[i] = x at *
                have e1 := sum_int c.seed x.toNat hsd hxl
                have e0 : IntKind.u64.wrap (x.toNat : Int) = (x.toNat : Int) := by rw [IntKind.wrap_u64]; omega
                rw [e0] at e1
                have HM := hidden (fun w => refMix_any ((c.seed + x.toNat) % 18446744073709551616) w (Nat.mod_lt _ (by decide)))
                rw [gear_mix] at HM
                have e2 := hash_int h (gearN c.seed x) hh (gearN_lt _ _)
                rw [show (2 * h + gearN c.seed x) % 18446744073709551616 = c.hash h x from rfl] at e2
                have HH2 := hidden (c.hash_lt h x)
                have HGW : Hid (c.grow i h (x :: l.drop (i + 1)) = if c.hit i (c.hash h x) = true then (0, true, i, c.hash h x) else ((c.grow (i + 1) (c.hash h x) (l.drop (i + 1))).1 + 1, (c.grow (i + 1) (c.hash h x) (l.drop (i + 1))).2)) := hidden (by rw [Shp.grow, if_neg (by omega), if_neg (by omega)])
                have HHT : Hid (c.hit i (c.hash h x) = decide (c.hash h x / 2 ^ (64 - c.zer i) = 0)) := hidden rfl
                have HZ : Hid (c.zer i = if i < c.no then c.k + 1 else c.k - 1) := hidden rfl
                generalize c.hash h x = h2 at *
                generalize gearN c.seed x = gn at *
                generalize (c.seed + x.toNat) % 18446744073709551616 = sm at *
                generalize x.toNat = xn at *
                have HI := hidden (And.intro hi2 hlt2)
                have HHH := hidden hh
                have HSD := hidden hsd
                have hi5 : i + 1 ≤ l.length := by omega
                have hi6 : i + 1 ≤ c.mx := by omega
                clear hx hcell hi2 hlt2 hh hsd
                by_cases hno : i < c.no
                · rw [if_pos hno] at HZ
                  obtain ⟨y, hy⟩ : ∃ y : Nat, y = 64 - c.zer i := ⟨_, rfl⟩
                  rw [← hy] at HHT
                  have HHT2 := hidden (HHT.out.trans (hit_int h2 y).symm)
                  rw [HZ.out] at hy
                  have hy' : (64 : Int) - ((c.k : Int) + 1) = (y : Int) := by omega
                  have hyl : y ≤ 64 := by omega
                  clear hy HHT HZ
                  cases hhit : ((h2 : Int) / 2 ^ y == 0) with
                  | true =>
                    have HE : Hid (c.grow i h (l.drop i) = (0, true, i, h2)) := hidden (by rw [HD2.out, HGW.out, if_pos (HHT2.out.trans hhit)])
                    clear HGW HHT2
                    go_wp2
                    go_quiet ((go_at_call 30; exact Calls.quiet_of_same ((HM.out _).mono fun _ _ ⟨a, b⟩ => ⟨a, b.symm⟩)))
                    go_wp2
                    go_returns
                    obtain ⟨f1, f2⟩ := cut_fin c l i h true i h2 hi1 HG.out HGr.out HE.out
                    rw [f1, f2]
                    exact ⟨rfl, Kept.trans HWk.out (HSr.out.drewN _)⟩
                  | false =>
                    have HE : Hid (c.grow i h (l.drop i) = ((c.grow (i + 1) h2 (l.drop (i + 1))).1 + 1, (c.grow (i + 1) h2 (l.drop (i + 1))).2)) := hidden (by rw [HD2.out, HGW.out, if_neg (by rw [HHT2.out, hhit]; simp)])
                    clear HGW HHT2
                    go_wp2
                    go_quiet ((go_at_call 30; exact Calls.quiet_of_same ((HM.out _).mono fun _ _ ⟨a, b⟩ => ⟨a, b.symm⟩)))
                    go_wp2
                    go_roundw
                    case rel => exact ⟨i + 1, h2, by omega, by omega, by go_num, rfl, HH2.out, HSr.out.drewN _, by rw [HGr.out, HE.out]; simp only [Prod.mk.injEq, and_true]; omega⟩
                    case measure => simp [intOf]; omega
                · rw [if_neg hno] at HZ
                  obtain ⟨y, hy⟩ : ∃ y : Nat, y = 64 - c.zer i := ⟨_, rfl⟩
                  rw [← hy] at HHT
                  have HHT2 := hidden (HHT.out.trans (hit_int h2 y).symm)
                  rw [HZ.out] at hy
                  have hy' : (64 : Int) - ((c.k : Int) - 1) = (y : Int) := by omega
                  have hyl : y ≤ 64 := by omega
                  clear hy HHT HZ
                  cases hhit : ((h2 : Int) / 2 ^ y == 0) with
                  | true =>
                    have HE : Hid (c.grow i h (l.drop i) = (0, true, i, h2)) := hidden (by rw [HD2.out, HGW.out, if_pos (HHT2.out.trans hhit)])
                    clear HGW HHT2
                    go_wp2
                    go_quiet ((go_at_call 30; exact Calls.quiet_of_same ((HM.out _).mono fun _ _ ⟨a, b⟩ => ⟨a, b.symm⟩)))
                    go_wp2
                    go_returns
                    obtain ⟨f1, f2⟩ := cut_fin c l i h true i h2 hi1 HG.out HGr.out HE.out
                    rw [f1, f2]
                    exact ⟨rfl, Kept.trans HWk.out (HSr.out.drewN _)⟩
                  | false =>
                    have HE : Hid (c.grow i h (l.drop i) = ((c.grow (i + 1) h2 (l.drop (i + 1))).1 + 1, (c.grow (i + 1) h2 (l.drop (i + 1))).2)) := hidden (by rw [HD2.out, HGW.out, if_neg (by rw [HHT2.out, hhit]; simp)])
                    clear HGW HHT2
                    go_wp2
                    go_quiet ((go_at_call 30; exact Calls.quiet_of_same ((HM.out _).mono fun _ _ ⟨a, b⟩ => ⟨a, b.symm⟩)))
                    go_wp2
                    go_roundw
                    case rel => exact ⟨i + 1, h2, by omega, by omega, by go_num, rfl, HH2.out, HSr.out.drewN _, by rw [HGr.out, HE.out]; simp only [Prod.mk.injEq, and_true]; omega⟩
                    case measure => simp [intOf]; omega
                )
            · have HI := hidden (And.intro hi2 hlt2)
              have HHH := hidden hh
              clear hi2 hlt2 hh
              first
              | (have hie : i = c.mx := by have := HI.out; omega
                 have HE : Hid (c.grow i h (l.drop i) = (0, true, i, h)) := hidden (by
                   cases l.drop i with
                   | nil => rw [Shp.grow, decide_eq_true hie]
                   | cons x t => rw [Shp.grow, if_pos hie])
                 have hnl2 : ¬ i < c.mx := by omega
                 have HIE := hidden hie
                 clear hie
                 go_wp2
                 go_quiet (fail)
                 go_wp2
                 go_returns
                 obtain ⟨f1, f2⟩ := cut_fin c l i h true i h hi1 HG.out HGr.out HE.out
                 rw [f1, f2, HIE.out]
                 exact ⟨ret_two rfl (by simp), Kept.trans HWk.out (HSr.out.drewN _)⟩)
              | (have hie : i = l.length := by have := HI.out; omega
                 have HE : Hid (c.grow i h (l.drop i) = (0, decide (l.length = c.mx), i, h)) := hidden (by rw [hie, List.drop_of_length_le (Nat.le_refl _)]; rfl)
                 have hnl2 : ¬ i < l.length := by omega
                 have HIE := hidden hie
                 clear hie
                 go_wp2
                 go_quiet (fail)
                 go_wp2
                 go_returns
                 obtain ⟨f1, f2⟩ := cut_fin c l i h _ i h hi1 HG.out HGr.out HE.out
                 rw [f1, f2, HIE.out]
                 exact ⟨ret_two rfl (eq_int _ _), Kept.trans HWk.out (HSr.out.drewN _)⟩)
end Go.Proofs.YtdmekpokgnieeaaDoor
