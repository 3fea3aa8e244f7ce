/- or of two bitmaps at hand by value. -/
import Derived.Test.YtbmbdidmbdanmaaDoorSp7
import Derived.Test.YtbmbdidmbdanmaaDoorShR
namespace Go.Proofs.YtbmbdidmbdanmaaDoor
open Go.RowKit
set_option linter.unusedVariables false
set_option linter.unusedSimpArgs false
theorem iBm : (Tryd.prog.info? 53).map (·.size) = some 64 := by kernel_rfl
theorem BmIn.one {cs : Array Value} {f : Nat → Bool} (h : BmIn cs 0 f) (hz : cs.size = 64) : cs.all (·.oneCell') = true := by
  rw [Array.all_eq_true]
  intro i hi
  obtain ⟨n, hn, _⟩ := h.word i (by omega)
  rw [Nat.zero_add, Array.getElem?_eq_getElem hi] at hn
  rw [Option.some.inj hn]
  rfl
set_option maxHeartbeats 1000000 in
set_option maxRecDepth 100000 in
theorem or_any (ca cb : Array Value) (f h : Nat → Bool) (ha : ca.size = 64) (hb : cb.size = 64) (fa : BmIn ca 0 f) (fb : BmIn cb 0 h) (w : World) :
    Calls Tryd.prog 59 #[.agg ca, .agg cb] w fun e w' => ∃ cc : Array Value, e = .returned (.agg cc) ∧ cc.size = 64 ∧ BmIn cc 0 (fun i => f i || h i) ∧ Same w w' := by
  obtain ⟨g, hg⟩ : ∃ g, w.heap.size = g := ⟨_, rfl⟩
  have B0 : Hid (∀ c2 : Array Value, (((w.alloc (.cells ca 53)).alloc (.cells cb 53)).alloc (.cells c2 53)).heap[g]? = some (.cells ca 53 (0, 0))) := hidden (fun c2 => by
    rw [← hg]
    exact blk_alloc (blk_alloc (blk_new w _) _) _)
  have B1 : Hid (∀ c2 : Array Value, (((w.alloc (.cells ca 53)).alloc (.cells cb 53)).alloc (.cells c2 53)).heap[g + 1]? = some (.cells cb 53 (0, 0))) := hidden (fun c2 => by
    have := blk_alloc (blk_new (w.alloc (.cells ca 53)) (.cells cb 53)) (.cells c2 53)
    simpa [hg] using this)
  have B2 : Hid (∀ c2 : Array Value, (((w.alloc (.cells ca 53)).alloc (.cells cb 53)).alloc (.cells c2 53)).heap[g + 2]? = some (.cells c2 53 (0, 0))) := hidden (fun c2 => by
    have := blk_new ((w.alloc (.cells ca 53)).alloc (.cells cb 53)) (.cells c2 53)
    simpa [hg] using this)
  have HA := hidden ha
  have HB := hidden hb
  have FA := hidden fa
  have FB := hidden fb
  clear ha hb fa fb
  go_enter Tryd.func59, Tryd.ntmps59
  go_wp2_with (refine wl_load 53 _ rfl rfl _ rfl cb (ld_row (B1.out _) Tryd.underlying53 rfl 64 iBm HB.out) ?_)
  go_loopw [8] (fun x wr => ∃ (i : Nat) (cr cz : Array Value), x = .int .i64 i ∧ i ≤ 64 ∧ wr.heap[g]? = some (.cells cr 53 (0, 0)) ∧ cr.size = 64 ∧ BmIn cr 0 (fun j => f j || (h j && decide (j < 64 * i))) ∧ wr.heap[g + 2]? = some (.cells cz 53 (0, 0)) ∧ cz.size = 64 ∧ Same w wr) (fun x _ => 64 - (intOf x).toNat)
  case atStart => exact ⟨0, ca, _, rfl, by omega, B0.out _, HA.out, bm_ext FA.out (fun j _ => by simp), B2.out _, by first | rfl | simp | kernel_rfl, ((Kept.refl _ _).alloc _).alloc _ |>.alloc _⟩
  case round =>
    obtain ⟨i, cr, cz, rfl, hi, hb0, hcr, hB, hb2, hcz, hS⟩ := hrel
    have HR := hidden hb0
    have HZ := hidden hb2
    have HCR := hidden hcr
    have HCZ := hidden hcz
    have HBm := hidden hB
    have HS := hidden hS
    by_cases h1 : i < 64
    · obtain ⟨n, hc, hn, hbit⟩ := hB.word i h1
      obtain ⟨m, hm, hmn, hmb⟩ := FB.out.word i h1
      rw [Nat.zero_add] at hc hm
      have c1 : wr.cell? ⟨g, i, none⟩ = some (.int .u64 n) := (blk_cell hb0).trans hc
      have f1 : wr.frozen? ⟨g, i, none⟩ = false := blk_free hb0
      have hix : ∀ W, (Instr.index 53 (.agg cb) (.int .i64 (i : Int))).run Tryd.prog W = .ok (.int .u64 (m : Int)) W := fun W => run_index_agg W 53 51 64 _ cb .i64 i _ Tryd.underlying53 h1 hm Tryd.underlying51 rfl (by kernel_rfl)
      have d4 : bits .or .u64 (n : Int) (m : Int) = ((n ||| m : Nat) : Int) := u64_or_nat _ _ hn hmn
      have hor := or_lt hn hmn
      have HBit := hidden (show ∀ j, j < 64 → (n ||| m).testBit j = ((fun j => f j || (h j && decide (j < 64 * i))) (64 * i + j) || h (64 * i + j)) from fun j hj => by rw [Nat.testBit_or, hbit j hj, hmb j hj])
      obtain ⟨y, hy⟩ : ∃ y, y = n ||| m := ⟨_, rfl⟩
      rw [← hy] at d4 hor HBit
      have q1 : (i : Int) < 64 := by omega
      have q0 : (0 : Int) ≤ (i : Int) := Int.natCast_nonneg _
      have HOR := hidden hor
      clear hb0 hb2 hcr hcz hB hS hc hm hbit hmb hy hor
      go_wp2
      go_roundw
      case rel =>
        refine ⟨i + 1, cr.setIfInBounds i (.int .u64 y), cz, by go_num, by omega, blk_set HR.out _, by simp [HCR.out], ?_, blk_kept ((Kept.refl (fun k => k = g) wr).setCell (p := ⟨g, i, none⟩) rfl _) (by omega) HZ.out, HCZ.out, HS.out.setNew (by show w.heap.size ≤ g; omega) _⟩
        have := bm_put (o := 0) (q := i) (h := fun j => f j || (h j && decide (j < 64 * (i + 1)))) HBm.out h1 HOR.out (fun j hj => ?_) (fun k j hk hj hne => ?_)
        · rw [Nat.zero_add] at this
          exact this
        · rw [HBit.out j hj]
          have e1 : decide (64 * i + j < 64 * i) = false := decide_eq_false (by omega)
          have e2 : decide (64 * i + j < 64 * (i + 1)) = true := decide_eq_true (by omega)
          simp only [e1, e2]
          cases f (64 * i + j) <;> cases h (64 * i + j) <;> rfl
        · have e3 : (64 * k + j < 64 * i) ↔ (64 * k + j < 64 * (i + 1)) := by omega
          simp only [decide_eq_decide.2 e3]
      case measure => simp [intOf]; omega
    · obtain rfl : i = 64 := by omega
      have q1 : ¬ ((64 : Nat) : Int) < 64 := by omega
      have hfin : BmIn cr 0 (fun i => f i || h i) := bm_ext HBm.out (fun j hj => by
        have : decide (j < 64 * 64) = true := decide_eq_true (by omega)
        simp [this])
      have HF := hidden hfin
      have hone := hfin.one hcr
      have Hld := hidden (ld_row hb0 Tryd.underlying53 rfl 64 iBm hcr)
      have Hst := hidden (st_row hb2 64 iBm hcz hcr hone)
      have Hv : Hid ((loadVar 53 ⟨g + 2, 0, none⟩).run Tryd.prog (wr.setRow (g + 2) cr) = .ok (.agg cr) (wr.setRow (g + 2) cr)) := hidden (lv_row (setRow_heap wr (g + 2) _ cr _ _ hb2) Tryd.underlying53 rfl 64 iBm hcr)
      clear hb0 hb2 hcr hcz hB hS hfin hone
      go_wp2_with (first
        | (refine wl_load 53 _ rfl rfl _ rfl _ Hld.out ?_)
        | (refine wl_store 53 _ _ rfl rfl rfl _ rfl _ rfl Hst.out ?_))
      exact bodyPost_ret (v := .agg cr) (res_row Tryd.results59 rfl Hv.out) rfl ⟨cr, rfl, HCR.out, HF.out, HS.out.setRow (Or.inl (by omega)) _⟩
end Go.Proofs.YtbmbdidmbdanmaaDoor
