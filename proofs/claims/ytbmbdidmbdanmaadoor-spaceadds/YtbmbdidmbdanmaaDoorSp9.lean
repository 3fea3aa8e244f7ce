/- A Space's taken. -/
import Derived.Test.YtbmbdidmbdanmaaDoorRegS
import Derived.Test.YtbmbdidmbdanmaaDoorStepC
namespace Go.Proofs.YtbmbdidmbdanmaaDoor
open Go.RowKit
set_option linter.unusedVariables false
set_option linter.unusedSimpArgs false
theorem step_load_mid {P : Program} {ops : Array Oper} {op : Oper} {a : Act} {w : World} {K : Act → World → Prop} {Q : Exit → Act → World → Prop} {E : Prop} (hg : op.guard = none) (ty : TypeId) (x : Operand) (ho : op.op = .load ty x)
    (b o : Nat) (hx : a.eval x = .pointer (some ⟨b, o, none⟩)) (cs : List Value) (d : TypeDesc) (hc : w.rangeAt b o cs)
    (hu : P.underlying ty = some d) (hd : d.isRow = true) (hi : (P.info? ty).map (·.size) = some cs.length)
    (h : K (a.put op.dst (.agg cs.toArray)) w) : if Region.wanted op (yielded ops a.tmps) = true then Oper.wp P op a w K Q else E := by
  have hw : Region.wanted op (yielded ops a.tmps) = true := by simp [Region.wanted, hg]
  rw [if_pos hw]
  exact wp_load_mid ty x ho b o hx cs d hc hu hd hi h
theorem step_store_row {P : Program} {ops : Array Oper} {op : Oper} {a : Act} {w w' : World} {K : Act → World → Prop} {Q : Exit → Act → World → Prop} {E : Prop} (hg : op.guard = none) (hds : op.dst = none) (ty : TypeId) (x y : Operand) (ho : op.op = .store ty x y)
    (p : Value) (hx : a.eval x = p) (cs : Array Value) (hy : a.eval y = .agg cs) (hrun : (Instr.storeAt ty p (.agg cs)).run P w = .ok () w')
    (h : K a w') : if Region.wanted op (yielded ops a.tmps) = true then Oper.wp P op a w K Q else E := by
  have hw : Region.wanted op (yielded ops a.tmps) = true := by simp [Region.wanted, hg]
  rw [if_pos hw]
  unfold Oper.wp execOp
  simp only [ho, hx, hy, hrun, Sem.run_bind, Sem.run_pure, Result.andThen_ok]
  show K (a.put op.dst undef) w'
  rw [hds]
  exact h
/-- Sixty-four words cut out of a block's cells. -/
theorem bm_cut {cs : Array Value} {o : Nat} {f : Nat → Bool} (h : BmIn cs o f) : (cs.extract o (o + 64)).size = 64 ∧ BmIn (cs.extract o (o + 64)) 0 f := by
  have hsz : o + 64 ≤ cs.size := by
    obtain ⟨n, hn, _⟩ := h.word 63 (by omega)
    have := (Array.getElem?_eq_some_iff.1 hn).1
    omega
  refine ⟨by simp; omega, ⟨fun k hk => ?_⟩⟩
  obtain ⟨n, hn, h1, h2⟩ := h.word k hk
  refine ⟨n, ?_, h1, h2⟩
  rw [Nat.zero_add, Array.getElem?_extract, if_pos (by omega)]
  exact hn
/-- A bitmap by value. -/
structure BmV (v : Value) (f : Nat → Bool) : Prop where
  ex : ∃ cc : Array Value, v = .agg cc ∧ cc.size = 64 ∧ BmIn cc 0 f
/-- How far taken is. -/
structure TkI (g : Nat) (cu cv : Array Value) (f : Nat → Bool) (d : Nat → Bool) (x : Nat → Value) : Prop where
  v0 : d 0 = true → x 0 = .pointer (some ⟨g, 0, none⟩)
  v1 : d 1 = true → x 1 = .pointer (some ⟨g, 0, none⟩)
  v2 : d 2 = true → x 2 = .pointer (some ⟨g, 2, none⟩)
  v3 : d 3 = true → x 3 = .agg cu
  v4 : d 4 = true → x 4 = .pointer (some ⟨g, 0, none⟩)
  v5 : d 5 = true → x 5 = .pointer (some ⟨g, 0, none⟩)
  v6 : d 6 = true → x 6 = .pointer (some ⟨g, 66, none⟩)
  v7 : d 7 = true → x 7 = .agg cv
  v8 : d 8 = true → BmV (x 8) f
def tkF (g r : Nat) (x : Nat → Value) : Act := { tmps := #[.pointer (some ⟨g, 0, none⟩), undef, .pointer (some ⟨r, 0, none⟩), x 0, x 1, x 2, x 3, x 4, x 5, x 6, x 7, x 8], defers := [] }
set_option maxHeartbeats 1000000 in
set_option maxRecDepth 100000 in
theorem sp_taken (g first count : Nat) (u v : Nat → Bool) (res : Nat) (w : World) (h : SpAt g first count u v res w) :
    Calls Tryd.prog 49 #[.pointer (some ⟨g, 0, none⟩)] w fun e w' => ∃ cc : Array Value, e = .returned (.agg cc) ∧ cc.size = 64 ∧ BmIn cc 0 (fun i => u i || v i) ∧ Same w w' := by
  obtain ⟨cs, hb, hsz, _, _, hu, hv, _⟩ := h.box
  obtain ⟨zu, bu⟩ := bm_cut hu
  obtain ⟨zv, bv⟩ := bm_cut hv
  have HRu := hidden (fun W (k : Same w W) => World.rangeAt_of_block (blk_kept k (fun h => h) hb) 2 64)
  have HRv := hidden (fun W (k : Same w W) => World.rangeAt_of_block (blk_kept k (fun h => h) hb) 66 64)
  have HCell := hidden (fun W (k : Same w W) => blk_kept k (fun h => h) hb)
  obtain ⟨cu, hcu⟩ : ∃ c, c = cs.extract 2 (2 + 64) := ⟨_, rfl⟩
  obtain ⟨cv, hcv⟩ : ∃ c, c = cs.extract 66 (66 + 64) := ⟨_, rfl⟩
  rw [← hcu] at zu bu HRu
  rw [← hcv] at zv bv HRv
  have HOr := hidden (fun W => or_any cu cv u v zu zv bu bv W)
  have hmx : Tryd.prog.follows .mixedOrders = true := by kernel_rfl
  have Hzu := hidden zu
  have Hzv := hidden zv
  have hgl : g < w.heap.size := blk_lt hb
  obtain ⟨r, hr⟩ : ∃ r, r = w.heap.size := ⟨_, rfl⟩
  clear hb hu hv h hcu hcv bu bv zu zv
  go_enter Tryd.func49, Tryd.ntmps49
  go_wp2
  rename_i KQ
  rw [← hr]
  change Code.wp _ _ _ (tkF g r (fun _ => undef)) (w.alloc (.cells (List.replicate 64 (Value.int .u64 0)).toArray 53))
  have hz : (List.replicate 64 (Value.int .u64 0)).toArray.size = 64 := by simp
  generalize (List.replicate 64 (Value.int .u64 0)).toArray = z at hz ⊢
  have hb1 : (w.alloc (.cells z 53)).heap[r]? = some (.cells z 53 (0, 0)) := by rw [hr]; exact blk_new w _
  have hs1 : Same w (w.alloc (.cells z 53)) := same_alloc _ _
  generalize w.alloc (.cells z 53) = w1 at hb1 hs1 ⊢
  refine region_grow (m := 9) (F := fun x => tkF g r x) (I := fun d x _ => TkI g cu cv (fun i => u i || v i) d x) hmx (by kernel_rfl) (fun _ => undef) rfl ⟨(fun h => by cases h), (fun h => by cases h), (fun h => by cases h), (fun h => by cases h), (fun h => by cases h), (fun h => by cases h), (fun h => by cases h), (fun h => by cases h), (fun h => by cases h)⟩ ?_ ?_
  · intro i hi9 d x W hsm hdi hdep hI
    clear KQ
    have kk : Same w W := hs1.trans hsm
    have hbW := HCell.out W kk
    match i, hi9 with
    | 0, _ =>
      refine wpOp_step rfl (fun K' hK => ?_)
      have HK := hidden hK
      clear hK
      unfold tkF
      go_simp
      exact HK.out _ _ ⟨.pointer (some ⟨g, 0, none⟩), (by unfold tkF upd; simp), ⟨(fun _ => rfl), hI.v1, hI.v2, hI.v3, hI.v4, hI.v5, hI.v6, hI.v7, hI.v8⟩, hsm⟩
    | 1, _ =>
      have u0 : x 0 = .pointer (some ⟨g, 0, none⟩) := hI.v0 (hdep 0 (by kernel_rfl))
      refine wpOp_step rfl (fun K' hK => ?_)
      have HK := hidden hK
      clear hK
      unfold tkF
      simp only [u0]
      go_simp
      exact HK.out _ _ ⟨.pointer (some ⟨g, 0, none⟩), (by unfold tkF upd; simp [u0]), ⟨hI.v0, (fun _ => rfl), hI.v2, hI.v3, hI.v4, hI.v5, hI.v6, hI.v7, hI.v8⟩, hsm⟩
    | 2, _ =>
      have u1 : x 1 = .pointer (some ⟨g, 0, none⟩) := hI.v1 (hdep 1 (by kernel_rfl))
      refine wpOp_step rfl (fun K' hK => ?_)
      have HK := hidden hK
      clear hK
      unfold tkF
      simp only [u1]
      go_simp
      exact HK.out _ _ ⟨.pointer (some ⟨g, 2, none⟩), (by unfold tkF upd; simp [u1]), ⟨hI.v0, hI.v1, (fun _ => rfl), hI.v3, hI.v4, hI.v5, hI.v6, hI.v7, hI.v8⟩, hsm⟩
    | 4, _ =>
      refine wpOp_step rfl (fun K' hK => ?_)
      have HK := hidden hK
      clear hK
      unfold tkF
      go_simp
      exact HK.out _ _ ⟨.pointer (some ⟨g, 0, none⟩), (by unfold tkF upd; simp), ⟨hI.v0, hI.v1, hI.v2, hI.v3, (fun _ => rfl), hI.v5, hI.v6, hI.v7, hI.v8⟩, hsm⟩
    | 5, _ =>
      have u4 : x 4 = .pointer (some ⟨g, 0, none⟩) := hI.v4 (hdep 4 (by kernel_rfl))
      refine wpOp_step rfl (fun K' hK => ?_)
      have HK := hidden hK
      clear hK
      unfold tkF
      simp only [u4]
      go_simp
      exact HK.out _ _ ⟨.pointer (some ⟨g, 0, none⟩), (by unfold tkF upd; simp [u4]), ⟨hI.v0, hI.v1, hI.v2, hI.v3, hI.v4, (fun _ => rfl), hI.v6, hI.v7, hI.v8⟩, hsm⟩
    | 6, _ =>
      have u5 : x 5 = .pointer (some ⟨g, 0, none⟩) := hI.v5 (hdep 5 (by kernel_rfl))
      refine wpOp_step rfl (fun K' hK => ?_)
      have HK := hidden hK
      clear hK
      unfold tkF
      simp only [u5]
      go_simp
      exact HK.out _ _ ⟨.pointer (some ⟨g, 66, none⟩), (by unfold tkF upd; simp [u5]), ⟨hI.v0, hI.v1, hI.v2, hI.v3, hI.v4, hI.v5, (fun _ => rfl), hI.v7, hI.v8⟩, hsm⟩
    | 3, _ =>
      have u2 : x 2 = .pointer (some ⟨g, 2, none⟩) := hI.v2 (hdep 2 (by kernel_rfl))
      refine wpOp_step rfl (fun K' hK => ?_)
      refine step_load_mid rfl 53 _ rfl g 2 u2 cu.toList _ (HRu.out W kk) Tryd.underlying53 rfl (by rw [iBm, Array.length_toList, Hzu.out]) ?_
      exact hK _ _ ⟨_, rfl, ⟨hI.v0, hI.v1, hI.v2, (fun _ => rfl), hI.v4, hI.v5, hI.v6, hI.v7, hI.v8⟩, hsm⟩
    | 7, _ =>
      have u6 : x 6 = .pointer (some ⟨g, 66, none⟩) := hI.v6 (hdep 6 (by kernel_rfl))
      refine wpOp_step rfl (fun K' hK => ?_)
      refine step_load_mid rfl 53 _ rfl g 66 u6 cv.toList _ (HRv.out W kk) Tryd.underlying53 rfl (by rw [iBm, Array.length_toList, Hzv.out]) ?_
      exact hK _ _ ⟨_, rfl, ⟨hI.v0, hI.v1, hI.v2, hI.v3, hI.v4, hI.v5, hI.v6, (fun _ => rfl), hI.v8⟩, hsm⟩
    | 8, _ =>
      have u3 : x 3 = .agg cu := hI.v3 (hdep 3 (by kernel_rfl))
      have u7 : x 7 = .agg cv := hI.v7 (hdep 7 (by kernel_rfl))
      refine wpOp_step rfl (fun K' hK => ?_)
      refine step_call rfl 59 #[.agg cu, .agg cv] (fun y W' => BmV y (fun i => u i || v i) ∧ Same W W') (by unfold tkF; simp only [u3, u7]; go_simp; try rfl) ((HOr.out W).mono fun e w' ⟨cc, he, h1, h2, h3⟩ => ⟨_, he, ⟨⟨cc, rfl, h1, h2⟩⟩, h3⟩) ?_
      intro y W' hy
      exact hK _ _ ⟨y, rfl, ⟨hI.v0, hI.v1, hI.v2, hI.v3, hI.v4, hI.v5, hI.v6, hI.v7, fun _ => hy.1⟩, hsm.trans hy.2⟩
    | q + 9, h => exact absurd h (by omega)
  · intro d x W hsm hall hI
    obtain ⟨cc, hcc, hc64, hbm⟩ := (hI.v8 (hall 8 (by decide))).ex
    have hbr := blk_kept hsm (fun h => h) hb1
    have hst := st_row hbr 64 iBm hz hc64 (hbm.one hc64)
    have hlv := lv_row (P := Tryd.prog) (setRow_heap W r _ cc _ _ hbr) Tryd.underlying53 rfl 64 iBm hc64
    have hfin : Same w (W.setRow r cc) := (hs1.trans hsm).setRow (Or.inl (by omega)) _
    refine wpOp_step rfl (fun K' hK => ?_)
    refine step_store_row rfl rfl 53 _ _ rfl (.pointer (some ⟨r, 0, none⟩)) rfl cc hcc hst ?_
    refine hK _ _ (KQ _ _ ?_)
    clear hK KQ hI
    go_wp2
    exact bodyPost_ret (v := .agg cc) (res_row Tryd.results49 rfl hlv) rfl ⟨cc, rfl, hc64, hbm, hfin⟩
end Go.Proofs.YtbmbdidmbdanmaaDoor
