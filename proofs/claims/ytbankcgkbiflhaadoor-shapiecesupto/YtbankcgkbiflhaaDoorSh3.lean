/- sha's mix, walked. -/
import Derived.Test.YtbankcgkbiflhaaDoorSh2
namespace Go.Proofs.YtbankcgkbiflhaaDoor
open Go.RowKit
set_option linter.unusedVariables false

theorem not32 (e : Nat) (he : e < 4294967296) : 4294967295 ^^^ e = 4294967295 - e := by
  apply Nat.eq_of_testBit_eq
  intro i
  rw [Nat.testBit_xor, show 4294967295 - e = 2 ^ 32 - (e + 1) by omega, Nat.testBit_two_pow_sub_succ (by omega), show (4294967295 : Nat) = 2 ^ 32 - 1 by decide, Nat.testBit_two_pow_sub_one]
  by_cases h : i < 32
  · simp [h]
  · have : e.testBit i = false := Nat.testBit_lt_two_pow (Nat.lt_of_lt_of_le (show e < 2 ^ 32 by omega) (Nat.pow_le_pow_right (by decide) (by omega)))
    simp [h, this]
theorem chf_int (e f g : Nat) (he : e < 4294967296) (hf : f < 4294967296) (hg : g < 4294967296) : bits .xor .u32 (bits .and .u32 (e : Int) (f : Int)) (bits .and .u32 (bits .xor .u32 (if IntKind.u32.signed = true then -1 else IntKind.u32.max) (e : Int)) (g : Int)) = ((chf e f g : Nat) : Int) := by
  rw [show (if IntKind.u32.signed = true then (-1 : Int) else IntKind.u32.max) = ((4294967295 : Nat) : Int) from rfl, u32xor _ _ (by decide) he, not32 e he, u32and _ _ he hf, u32and _ _ (by omega) hg, u32xor _ _ (and_lt32 he) (and_lt32 (by omega))]
  rfl
/-- A state's cells. -/
def S8.cells (s : S8) : Array Value := #[.int .u32 s.a, .int .u32 s.b, .int .u32 s.c, .int .u32 s.d, .int .u32 s.e, .int .u32 s.f, .int .u32 s.g, .int .u32 s.h]
theorem i8w : (Tryd.prog.info? 52).map (·.size) = some 8 := by kernel_rfl
theorem i64b : (Tryd.prog.info? 72).map (·.size) = some 64 := by kernel_rfl
theorem W32_at (ws : List Nat) (i : Nat) (h : i < ws.length) : (ws.map W32).toArray[i]? = some (.int .u32 (ws.getD i 0 : Nat)) := by
  rw [List.getElem?_toArray, List.getElem?_map, List.getElem?_eq_getElem h, List.getD_eq_getElem?_getD, List.getElem?_eq_getElem h]
  rfl
theorem W32_one (ws : List Nat) : (ws.map W32).toArray.all (·.oneCell') = true := by
  refine all_oneCell_toArray (fun v hv => ?_)
  rw [List.mem_map] at hv
  obtain ⟨n, _, rfl⟩ := hv
  rfl
theorem S8.at {w : World} {g : Nat} {t : TypeId} {s : S8} (h : w.heap[g]? = some (.cells #[.int .u32 s.a, .int .u32 s.b, .int .u32 s.c, .int .u32 s.d, .int .u32 s.e, .int .u32 s.f, .int .u32 s.g, .int .u32 s.h] t (0, 0))) :
    w.cell? ⟨g, 0, none⟩ = some (.int .u32 s.a) ∧ w.cell? ⟨g, 1, none⟩ = some (.int .u32 s.b) ∧ w.cell? ⟨g, 2, none⟩ = some (.int .u32 s.c) ∧ w.cell? ⟨g, 3, none⟩ = some (.int .u32 s.d) ∧ w.cell? ⟨g, 4, none⟩ = some (.int .u32 s.e) ∧ w.cell? ⟨g, 5, none⟩ = some (.int .u32 s.f) ∧ w.cell? ⟨g, 6, none⟩ = some (.int .u32 s.g) ∧ w.cell? ⟨g, 7, none⟩ = some (.int .u32 s.h) :=
  ⟨blk_cell h, blk_cell h, blk_cell h, blk_cell h, blk_cell h, blk_cell h, blk_cell h, blk_cell h⟩
set_option maxHeartbeats 1000000 in
set_option maxRecDepth 100000 in
theorem mix_any (s : S8) (hs : s.Ok) (l : List UInt8) (hl : l.length = 64) (w : World) (hT : Tab w) : Calls Tryd.prog 33 #[.agg s.cells, .agg (l.map U8).toArray] w fun e w' => e = .returned (.agg (blkS s l).cells) ∧ Same w w' := by
  have HSc := hidden (fun W => sched_any l hl W)
  have hz : (l.map U8).toArray.size = 64 := by simp [hl]
  obtain ⟨cs, hcs⟩ : ∃ cs, cs = (l.map U8).toArray := ⟨_, rfl⟩
  rw [← hcs] at hz HSc ⊢
  clear hcs
  have hRz : ((wds l 64).map W32).toArray.size = 64 := by simp [wds_len]
  have HR1 := hidden (W32_one (wds l 64))
  have HRa := hidden (W32_at (wds l 64))
  obtain ⟨R, hR⟩ : ∃ R, R = ((wds l 64).map W32).toArray := ⟨_, rfl⟩
  rw [← hR] at HSc hRz HR1 HRa
  clear hR
  have HZ := hidden hz
  have HRZ := hidden hRz
  have HT := hidden hT
  have HL := hidden hl
  have HS8 := hidden hs
  clear hz hRz hT hl hs
  unfold S8.cells
  obtain ⟨g, hg⟩ : ∃ g, w.heap.size = g := ⟨_, rfl⟩
  have B1 : Hid (∀ c0 c2 : Array Value, (((w.alloc (.cells c0 52)).alloc (.cells cs 72)).alloc (.cells c2 52)).heap[g + 1]? = some (.cells cs 72 (0, 0))) := hidden (fun c0 c2 => by
    have := blk_alloc (blk_new (w.alloc (.cells c0 52)) (.cells cs 72)) (.cells c2 52)
    simpa [hg] using this)
  have B0 : Hid (∀ c0 c2 : Array Value, (((w.alloc (.cells c0 52)).alloc (.cells cs 72)).alloc (.cells c2 52)).heap[g]? = some (.cells c0 52 (0, 0))) := hidden (fun c0 c2 => by
    have := blk_alloc (blk_alloc (blk_new w (.cells c0 52)) (.cells cs 72)) (.cells c2 52)
    rwa [hg] at this)
  have B2 : Hid (∀ c0 c2 : Array Value, (((w.alloc (.cells c0 52)).alloc (.cells cs 72)).alloc (.cells c2 52)).heap[g + 1 + 1]? = some (.cells c2 52 (0, 0))) := hidden (fun c0 c2 => by
    have := blk_new ((w.alloc (.cells c0 52)).alloc (.cells cs 72)) (.cells c2 52)
    simpa [hg] using this)
  have K0 : Hid (∀ c0 c1 c2 : Obj, Same w (((w.alloc c0).alloc c1).alloc c2)) := hidden (fun _ _ _ => ((same_alloc _ _).alloc _).alloc _)
  go_enter Tryd.func33, Tryd.ntmps33
  go_wp2_with (first
    | (refine wl_load 72 _ rfl rfl _ rfl cs (ld_row (B1.out _ _) Tryd.underlying72 rfl 64 i64b HZ.out) ?_)
    | (go_at_call 56; refine (HSc.out _).mono ?_; rintro e w1 ⟨rfl, k1⟩; have b0 := hidden (blk_kept k1 (fun h => h) (B0.out _ _)); have b2 := hidden (blk_kept k1 (fun h => h) (B2.out _ _)); have k2 := hidden (Kept.trans (K0.out _ _ _) k1); clear B1 k1)
    | (refine wl_store 77 _ _ rfl rfl rfl _ rfl R rfl (run_storeAt_new w1 77 _ R (by rw [i64w, HRZ.out]) (by rw [HRZ.out]; rfl) HR1.out) ?_; have b5 := hidden (blk_new w1 (.cells R 77)); have b0' := hidden (blk_alloc b0.out (.cells R 77)); have b2' := hidden (blk_alloc b2.out (.cells R 77)); have k3 := hidden (k2.out.alloc (.cells R 77)); clear b0 b2 k2; obtain ⟨g5, hg5⟩ : ∃ g5, w1.heap.size = g5 := ⟨_, rfl⟩; rw [hg5] at b5 ⊢; generalize w1.alloc (.cells R 77) = W2 at *; clear hg5 HSc B0 B2 K0))
  obtain ⟨c0, c1, c2, c3, c4, c5, c6, c7⟩ := S8.at b0'.out
  go_quiet (fail)
  clear c0 c1 c2 c3 c4 c5 c6 c7
  have q := (Kept.refl (fun _ => False) W2).drewN nq
  have b0 := hidden (blk_kept q (fun h => h) b0'.out)
  have b2 := hidden (blk_kept q (fun h => h) b2'.out)
  have b6 := hidden (blk_kept q (fun h => h) b5.out)
  have k4 := hidden (Kept.trans k3.out q)
  clear q b0' b2' b5 k3
  generalize W2.drewN nq = W3 at *
  clear W2 nq
  obtain ⟨c0, c1, c2, c3, c4, c5, c6, c7⟩ := S8.at b0.out
  go_wp2
  go_quiet (fail)
  clear c0 c1 c2 c3 c4 c5 c6 c7
  have q := (Kept.refl (fun _ => False) W3).drewN nq
  have b0' := hidden (blk_kept q (fun h => h) b0.out)
  have b2' := hidden (blk_kept q (fun h => h) b2.out)
  have b5 := hidden (blk_kept q (fun h => h) b6.out)
  have k5 := hidden (Kept.trans k4.out q)
  clear q b0 b2 b6 k4
  generalize W3.drewN nq = W4 at *
  clear W3 nq
  go_wp2_with (refine wl_load 77 _ rfl rfl _ rfl R (ld_row b5.out Tryd.underlying77 rfl 64 i64w HRZ.out) ?_)
  go_loopw [6, 7, 8, 9, 10, 11, 12, 13, 37] (fun xa xb xc xd xe xf xg xh x wr => ∃ t : Nat, t ≤ 64 ∧ x = .int .i64 t ∧ xa = .int .u32 (rnds s (wds l 64) t).a ∧ xb = .int .u32 (rnds s (wds l 64) t).b ∧ xc = .int .u32 (rnds s (wds l 64) t).c ∧ xd = .int .u32 (rnds s (wds l 64) t).d ∧ xe = .int .u32 (rnds s (wds l 64) t).e ∧ xf = .int .u32 (rnds s (wds l 64) t).f ∧ xg = .int .u32 (rnds s (wds l 64) t).g ∧ xh = .int .u32 (rnds s (wds l 64) t).h ∧ Same W4 wr) (fun _ _ _ _ _ _ _ _ x _ => 64 - (intOf x).toNat)
  case atStart => exact ⟨0, by omega, rfl, rfl, rfl, rfl, rfl, rfl, rfl, rfl, rfl, Kept.refl _ _⟩
  case round =>
    obtain ⟨t, ht, rfl, rfl, rfl, rfl, rfl, rfl, rfl, rfl, rfl, hS⟩ := hrel
    have HSm := hidden hS
    have HOk := hidden (rnds_ok HS8.out (wds l 64) t)
    have HN : Hid (rnds s (wds l 64) (t + 1) = rnd (rnds s (wds l 64) t) (kw t) ((wds l 64).getD t 0)) := hidden rfl
    have hwl := wds_len l 64
    by_cases hlt : t < 64
    · have ct : wr.cell? ⟨0, t, none⟩ = some (.int .u32 (kw t : Nat)) := (HT.out.same (Kept.trans k5.out hS)) t hlt
      have hRt : R[t]? = some (.int .u32 ((wds l 64).getD t 0 : Nat)) := HRa.out t (by omega)
      have hix : ∀ W, (Instr.index 77 (.agg R) (.int .i64 (t : Int))).run Tryd.prog W = .ok (.int .u32 ((wds l 64).getD t 0 : Nat)) W := fun W => run_index_agg W 77 51 64 _ R .i64 t _ Tryd.underlying77 hlt hRt Tryd.underlying51 rfl (by kernel_rfl)
      clear hRt
      have hk := kw_lt t
      have hw := getD_lt (wds_lt l 64) t
      generalize (wds l 64).getD t 0 = wt at *
      generalize kw t = kt at *
      obtain ⟨q1, hq1⟩ : ∃ q1, rnds s (wds l 64) (t + 1) = q1 := ⟨_, rfl⟩
      rw [hq1] at HN
      have HQ := hidden hq1
      clear hq1
      generalize rnds s (wds l 64) t = q at *
      obtain ⟨a, b, c, d, e, f, g', h⟩ := q
      obtain ⟨ha, hb, hc, hd, he, hf, hg', hh⟩ := HOk.out
      simp only at ha hb hc hd he hf hg' hh ⊢
      have z0 := bg0_int a ha
      have z1 := bg1_int e he
      have zm := maj_int a b c ha hb hc
      have k1 : (t : Int) < 64 := by omega
      clear hS hwl ht HOk
      go_wp2
      go_quiet ((go_at_call 57; exact Calls.quiet_of_same ((ror_z _ _ (by unfold rorN; decide) (by decide) (by assumption) _).mono fun _ _ ⟨a, b⟩ => ⟨a, b.symm⟩)))
      go_wp2_with (go_at_call 57; refine (ror_z _ _ (by unfold rorN; decide) (by decide) (by assumption) _).mono ?_; rintro e w2 ⟨rfl, rfl⟩)
      go_roundw
      case rel =>
        have e1 := chf_int e f g' he hf hg'
        rw [e1]
        have N1 : rnds s (wds l 64) (t + 1) = q1 := HQ.out
        refine ⟨t + 1, by omega, by go_num, ?_⟩
        rw [N1, HN.out]
        refine ⟨?_, rfl, rfl, rfl, ?_, rfl, rfl, rfl, HSm.out.drewN _⟩
        · exact congrArg (Value.int .u32) (by simp only [rnd, tt1, tt2]; omega)
        · exact congrArg (Value.int .u32) (by simp only [rnd, tt1, tt2]; omega)
      case measure => simp [intOf]; omega
    · have h64 : t = 64 := by omega
      have b0 := blk_kept hS (fun h => h) b0'.out
      have b2 := hidden (blk_kept hS (fun h => h) b2'.out)
      obtain ⟨c0, c1, c2, c3, c4, c5, c6, c7⟩ := S8.at b0
      have hok := HOk.out
      have HE : Hid (blkS s l = s.add (rnds s (wds l 64) t)) := hidden (by rw [h64]; rfl)
      generalize rnds s (wds l 64) t = q at *
      obtain ⟨a, b, c, d, e, f, g', h⟩ := q
      simp only at HE ⊢
      have hs := HS8.out
      obtain ⟨sa, sb, sc, sd, se, sf, sg, sh⟩ := s
      simp only at HE c0 c1 c2 c3 c4 c5 c6 c7 ⊢
      clear b0 hwl h64 HN hok
      have HSo := hidden (Kept.trans k5.out hS)
      clear hS
      have Hst : Hid (∀ q : S8, (Instr.storeAt 52 (.pointer (some ⟨g + 1 + 1, 0, none⟩)) (.agg q.cells)).run Tryd.prog wr = .ok () (wr.setRow (g + 1 + 1) q.cells)) := hidden (fun q => st_row b2.out 8 i8w rfl rfl (by simp [S8.cells, Value.oneCell']))
      have Hv : Hid (∀ q : S8, (loadVar 52 ⟨g + 1 + 1, 0, none⟩).run Tryd.prog (wr.setRow (g + 1 + 1) q.cells) = .ok (.agg q.cells) (wr.setRow (g + 1 + 1) q.cells)) := hidden (fun q => lv_row (setRow_heap wr (g + 1 + 1) _ q.cells _ _ b2.out) Tryd.underlying52 rfl 8 i8w rfl)
      have k1 : ¬ (t : Int) < 64 := by omega
      go_wp2_with (refine wl_store 52 _ _ rfl rfl rfl _ rfl _ rfl (Hst.out (S8.add ⟨sa, sb, sc, sd, se, sf, sg, sh⟩ ⟨a, b, c, d, e, f, g', h⟩)) ?_)
      exact bodyPost_ret (res_row Tryd.results33 rfl (Hv.out _)) rfl ⟨by rw [HE.out]; rfl, HSo.out.setRow (Or.inl (by omega)) _⟩
end Go.Proofs.YtbankcgkbiflhaaDoor
