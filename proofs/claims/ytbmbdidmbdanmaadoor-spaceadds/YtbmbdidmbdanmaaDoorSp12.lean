/- A Space's Settle, Reserve, Release, Fork; New refused. -/
import Derived.Test.YtbmbdidmbdanmaaDoorSp11
namespace Go.Proofs.YtbmbdidmbdanmaaDoor
open Go.RowKit
set_option linter.unusedVariables false
set_option linter.unusedSimpArgs false
theorem setCells_blk {g : Nat} {t : TypeId} : ∀ (vs : List Value) (o : Nat) (w : World) (cs : Array Value), w.heap[g]? = some (.cells cs t (0, 0)) →
    ∃ cs', (w.setCells g o vs).heap[g]? = some (.cells cs' t (0, 0)) ∧ cs'.size = cs.size ∧ (∀ j, (j < o ∨ o + vs.length ≤ j) → cs'[j]? = cs[j]?) ∧ (∀ j v, vs[j]? = some v → o + j < cs.size → cs'[o + j]? = some v) ∧ Kept (fun b => b = g) w (w.setCells g o vs)
  | [], o, w, cs, h => ⟨cs, h, rfl, fun _ _ => rfl, (fun j v h => by simp at h), Kept.refl _ _⟩
  | x :: vs, o, w, cs, h => by
    have h1 : (w.setCell ⟨g, o, none⟩ x).heap[g]? = some (.cells (cs.setIfInBounds o x) t (0, 0)) := blk_set h x
    obtain ⟨cs', a, b, c, d, e⟩ := setCells_blk vs (o + 1) _ _ h1
    refine ⟨cs', a, by rw [b]; simp, fun j hj => ?_, fun j v hv hlt => ?_, ((Kept.refl (fun b => b = g) w).setCell (p := ⟨g, o, none⟩) rfl x).trans e⟩
    · simp only [List.length_cons] at hj
      rw [c j (by omega), Array.getElem?_setIfInBounds, if_neg (by omega)]
    · cases j with
      | zero =>
        simp at hv
        subst hv
        rw [Nat.add_zero] at hlt ⊢
        rw [c o (by omega), Array.getElem?_setIfInBounds, if_pos rfl, if_pos hlt]
      | succ j =>
        have := d j v (by simpa using hv) (by simp; omega)
        rw [show o + (j + 1) = o + 1 + j by omega]
        exact this
theorem zero_bm {cs : Array Value} {o : Nat} (h : ∀ k, k < 64 → cs[o + k]? = some (.int .u64 0)) : BmIn cs o (fun _ => false) := ⟨fun k hk => ⟨0, h k hk, by decide, fun j _ => by simp⟩⟩
set_option maxHeartbeats 2000000 in
set_option maxRecDepth 100000 in
theorem sp_settle (g first count : Nat) (u v : Nat → Bool) (res : Nat) (w : World) (h : SpAt g first count u v res w) :
    Calls Tryd.prog 18 #[.pointer (some ⟨g, 0, none⟩)] w fun r w' => r = .returned (.int .i64 (cnt v 4096 : Nat)) ∧ SpAt g first count u (fun _ => false) res w' ∧ Kept (fun b => b = g) w w' := by
  obtain ⟨cs, hb, hsz, q0, q1, hu, hv, q2⟩ := h.box
  have A := hidden (sp_made g first count u v res w h)
  have C := hidden (bm_ones g 66 _ cs v w hb hv)
  have HB := hidden hb
  have HH := hidden h
  have hth : w.there g 66 64 := fun j hj => by
    obtain ⟨n, hn, _⟩ := hv.word j hj
    exact ⟨by rw [blk_cell hb, hn]; rfl, blk_free hb⟩
  have HTh := hidden hth
  have HZ := hidden hsz
  clear hb h hu hv q0 q1 q2 hth hsz
  go_enter Tryd.func18, Tryd.ntmps18
  go_wp2_with (first
    | (go_at_call 44; refine A.out.mono ?_; rintro e w1 ⟨rfl, rfl⟩)
    | (go_at_call 47; refine C.out.mono ?_; rintro e w1 ⟨rfl, rfl⟩)
    | (refine wpList_store_mid rfl 53 _ _ rfl g 66 (List.replicate 64 (Value.int .u64 0)).toArray rfl rfl (by simpa using HTh.out) (by rw [iBm]; simp) (by simp [Value.oneCell']) ?_))
  go_returns
  obtain ⟨cs', a, b, c, d, e⟩ := setCells_blk (List.replicate 64 (Value.int .u64 0)).toArray.toList 66 w cs HB.out
  have hln : (List.replicate 64 (Value.int .u64 0)).toArray.toList.length = 64 := List.length_replicate
  have hzz := HZ.out
  refine ⟨rfl, HH.out.newV HB.out a ⟨b, fun j hj => c j (by rw [hln]; omega)⟩ (zero_bm fun k hk => ?_) (fun _ _ _ => rfl), e⟩
  refine d k (.int .u64 0) ?_ (by omega)
  rw [List.toList_toArray, List.getElem?_replicate, if_pos hk]
theorem SpAt.newR {g first count : Nat} {u v : Nat → Bool} {res res' : Nat} {w : World} (h : SpAt g first count u v res w) (hr : res' ≤ 4096) : SpAt g first count u v res' (w.setCell ⟨g, 130, none⟩ (.int .i64 (res' : Int))) := by
  obtain ⟨cs, b0, h1, h2, h3, h4, h5, h6⟩ := h.box
  refine ⟨⟨_, blk_set b0 _, by simp [h1], by rw [Array.getElem?_setIfInBounds, if_neg (by omega)]; exact h2, by rw [Array.getElem?_setIfInBounds, if_neg (by omega)]; exact h3, ⟨fun k hk => ?_⟩, ⟨fun k hk => ?_⟩, by rw [Array.getElem?_setIfInBounds, if_pos rfl, if_pos (by omega)]⟩, ⟨h.fits.1, h.fits.2.1, hr⟩, h.inU, h.inV⟩
  · obtain ⟨n, a, b, c⟩ := h4.word k hk
    exact ⟨n, by rw [Array.getElem?_setIfInBounds, if_neg (by omega)]; exact a, b, c⟩
  · obtain ⟨n, a, b, c⟩ := h5.word k hk
    exact ⟨n, by rw [Array.getElem?_setIfInBounds, if_neg (by omega)]; exact a, b, c⟩
theorem left_le (count : Nat) (u v : Nat → Bool) (res : Nat) : leftZ count u v res ≤ (count : Int) - res := by
  unfold leftZ
  omega
set_option maxHeartbeats 2000000 in
set_option maxRecDepth 100000 in
theorem sp_resArg (g first count : Nat) (u v : Nat → Bool) (res : Nat) (n : Int) (w : World) (h : SpAt g first count u v res w) (hn : n < 0) :
    Calls Tryd.prog 19 #[.pointer (some ⟨g, 0, none⟩), .int .i64 n] w fun r w' => r = .returned (.int .i64 1) ∧ w = w' := by
  have A := hidden (sp_made g first count u v res w h)
  have HL := hidden (sp_leftN g first count u v res w h)
  have HH := hidden (fun W (k : Same w W) => h.kept k (fun h => h))
  have l3 := h.fits
  have hle := left_le count u v res
  generalize leftZ count u v res = L at *
  clear h
  go_enter Tryd.func19, Tryd.ntmps19
  go_wp2_with (first
    | (go_at_call 44; refine A.out.mono ?_; rintro e w1 ⟨rfl, rfl⟩)
    | (go_at_call 25; refine HL.out.mono ?_; rintro e w2 ⟨rfl, nn, rfl⟩))
  go_returns
  exact ⟨rfl, rfl⟩
set_option maxHeartbeats 2000000 in
set_option maxRecDepth 100000 in
theorem sp_resFull (g first count : Nat) (u v : Nat → Bool) (res : Nat) (n : Int) (w : World) (h : SpAt g first count u v res w) (h0 : 0 ≤ n) (hn : leftZ count u v res < n) :
    Calls Tryd.prog 19 #[.pointer (some ⟨g, 0, none⟩), .int .i64 n] w fun r w' => r = .returned (.int .i64 2) ∧ Same w w' := by
  have A := hidden (sp_made g first count u v res w h)
  have HL := hidden (sp_leftN g first count u v res w h)
  have HH := hidden (fun W (k : Same w W) => h.kept k (fun h => h))
  have l3 := h.fits
  have hle := left_le count u v res
  have q0 : ¬ n < 0 := by omega
  generalize leftZ count u v res = L at *
  clear h
  go_enter Tryd.func19, Tryd.ntmps19
  go_wp2_with (first
    | (go_at_call 44; refine A.out.mono ?_; rintro e w1 ⟨rfl, rfl⟩)
    | (go_at_call 25; refine HL.out.mono ?_; rintro e w2 ⟨rfl, nn, rfl⟩))
  go_returns
  exact ⟨rfl, (Kept.refl _ _).drewN _⟩
set_option maxHeartbeats 2000000 in
set_option maxRecDepth 100000 in
theorem sp_resOk (g first count : Nat) (u v : Nat → Bool) (res : Nat) (n : Int) (w : World) (h : SpAt g first count u v res w) (h0 : 0 ≤ n) (hn : ¬ leftZ count u v res < n) :
    Calls Tryd.prog 19 #[.pointer (some ⟨g, 0, none⟩), .int .i64 n] w fun r w' => r = .returned (.int .i64 0) ∧ SpAt g first count u v (res + n.toNat) w' ∧ Kept (fun b => b = g) w w' := by
  have A := hidden (sp_made g first count u v res w h)
  have HL := hidden (sp_leftN g first count u v res w h)
  have HH := hidden (fun W (k : Same w W) => h.kept k (fun h => h))
  have l3 := h.fits
  have hle := left_le count u v res
  have q0 : ¬ n < 0 := by omega
  have m1 : IntKind.i64.wrap ((res : Int) + n) = (res : Int) + n := by rw [IntKind.wrap_i64]; omega
  generalize leftZ count u v res = L at *
  clear h
  go_enter Tryd.func19, Tryd.ntmps19
  go_wp2_with (first
    | (go_at_call 44; refine A.out.mono ?_; rintro e w1 ⟨rfl, rfl⟩)
    | (go_at_call 25; refine HL.out.mono ?_; rintro e w2 ⟨rfl, nn, rfl⟩; obtain ⟨cs, hb, _, _, _, _, _, hr⟩ := (HH.out _ ((Kept.refl _ w).drewN nn)).box; have x1 : (w.drewN nn).cell? ⟨g, 130, none⟩ = some (.int .i64 res) := (blk_cell hb).trans hr; have x2 : (w.drewN nn).frozen? ⟨g, 130, none⟩ = false := blk_free hb; clear hb hr))
  go_returns
  have e : (res : Int) + n = ((res + n.toNat : Nat) : Int) := by omega
  refine ⟨rfl, ?_, ?_⟩
  · rw [e]
    exact (HH.out _ ((Kept.refl _ w).drewN nn)).newR (by omega)
  · exact ((Kept.refl (fun b => b = g) w).drewN nn).setCell (p := ⟨g, 130, none⟩) rfl _
set_option maxHeartbeats 2000000 in
set_option maxRecDepth 100000 in
theorem sp_relArg (g first count : Nat) (u v : Nat → Bool) (res : Nat) (n : Int) (w : World) (h : SpAt g first count u v res w) (hn : n < 0) :
    Calls Tryd.prog 20 #[.pointer (some ⟨g, 0, none⟩), .int .i64 n] w fun r w' => r = .returned (.int .i64 1) ∧ w = w' := by
  have A := hidden (sp_made g first count u v res w h)
  have HH := hidden h
  have l3 := h.fits
  obtain ⟨cs, hb, _, _, _, _, _, hr⟩ := h.box
  have x1 : w.cell? ⟨g, 130, none⟩ = some (.int .i64 res) := (blk_cell hb).trans hr
  have x2 : w.frozen? ⟨g, 130, none⟩ = false := blk_free hb
  clear hb hr h
  go_enter Tryd.func20, Tryd.ntmps20
  go_wp2_with (go_at_call 44; refine A.out.mono ?_; rintro e w1 ⟨rfl, rfl⟩)
  go_returns
  exact ⟨rfl, rfl⟩
set_option maxHeartbeats 2000000 in
set_option maxRecDepth 100000 in
theorem sp_relMuch (g first count : Nat) (u v : Nat → Bool) (res : Nat) (n : Int) (w : World) (h : SpAt g first count u v res w) (h0 : 0 ≤ n) (hn : (res : Int) < n) :
    Calls Tryd.prog 20 #[.pointer (some ⟨g, 0, none⟩), .int .i64 n] w fun r w' => r = .returned (.int .i64 1) ∧ w = w' := by
  have A := hidden (sp_made g first count u v res w h)
  have HH := hidden h
  have l3 := h.fits
  obtain ⟨cs, hb, _, _, _, _, _, hr⟩ := h.box
  have x1 : w.cell? ⟨g, 130, none⟩ = some (.int .i64 res) := (blk_cell hb).trans hr
  have x2 : w.frozen? ⟨g, 130, none⟩ = false := blk_free hb
  clear hb hr h
  have q0 : ¬ n < 0 := by omega
  go_enter Tryd.func20, Tryd.ntmps20
  go_wp2_with (go_at_call 44; refine A.out.mono ?_; rintro e w1 ⟨rfl, rfl⟩)
  go_returns
  exact ⟨rfl, rfl⟩
set_option maxHeartbeats 2000000 in
set_option maxRecDepth 100000 in
theorem sp_relOk (g first count : Nat) (u v : Nat → Bool) (res : Nat) (n : Int) (w : World) (h : SpAt g first count u v res w) (h0 : 0 ≤ n) (hn : ¬ (res : Int) < n) :
    Calls Tryd.prog 20 #[.pointer (some ⟨g, 0, none⟩), .int .i64 n] w fun r w' => r = .returned (.int .i64 0) ∧ SpAt g first count u v (res - n.toNat) w' ∧ Kept (fun b => b = g) w w' := by
  have A := hidden (sp_made g first count u v res w h)
  have HH := hidden h
  have l3 := h.fits
  obtain ⟨cs, hb, _, _, _, _, _, hr⟩ := h.box
  have x1 : w.cell? ⟨g, 130, none⟩ = some (.int .i64 res) := (blk_cell hb).trans hr
  have x2 : w.frozen? ⟨g, 130, none⟩ = false := blk_free hb
  clear hb hr h
  have q0 : ¬ n < 0 := by omega
  have m1 : IntKind.i64.wrap ((res : Int) - n) = (res : Int) - n := by rw [IntKind.wrap_i64]; omega
  go_enter Tryd.func20, Tryd.ntmps20
  go_wp2_with (go_at_call 44; refine A.out.mono ?_; rintro e w1 ⟨rfl, rfl⟩)
  go_returns
  have e : (res : Int) - n = ((res - n.toNat : Nat) : Int) := by omega
  refine ⟨rfl, ?_, ?_⟩
  · rw [e]
    exact HH.out.newR (by omega)
  · exact (Kept.refl (fun b => b = g) w).setCell (p := ⟨g, 130, none⟩) rfl _
set_option maxHeartbeats 2000000 in
set_option maxRecDepth 100000 in
theorem sp_fork (g first count : Nat) (u v : Nat → Bool) (res : Nat) (w : World) (h : SpAt g first count u v res w) :
    Calls Tryd.prog 13 #[.pointer (some ⟨g, 0, none⟩)] w fun r w' => ∃ g', r = .returned (.pointer (some ⟨g', 0, none⟩)) ∧ w.heap.size ≤ g' ∧ SpAt g' first count u v res w' ∧ Same w w' := by
  obtain ⟨cs, hb, hsz, q0, q1, hu, hv, q2⟩ := h.box
  have A := hidden (sp_made g first count u v res w h)
  have iSp : (Tryd.prog.info? 55).map (·.size) = some 131 := by kernel_rfl
  have h1 : cs.all (·.oneCell') = true := by
    rw [Array.all_eq_true]
    intro i hi
    by_cases a : i = 0
    · subst a
      rw [Array.getElem?_eq_getElem hi] at q0
      rw [Option.some.inj q0]
      rfl
    by_cases b : i = 1
    · subst b
      rw [Array.getElem?_eq_getElem hi] at q1
      rw [Option.some.inj q1]
      rfl
    by_cases c : i = 130
    · subst c
      rw [Array.getElem?_eq_getElem hi] at q2
      rw [Option.some.inj q2]
      rfl
    by_cases d : i < 66
    · obtain ⟨n, hn, _⟩ := hu.word (i - 2) (by omega)
      rw [show 2 + (i - 2) = i by omega, Array.getElem?_eq_getElem hi] at hn
      rw [Option.some.inj hn]
      rfl
    · obtain ⟨n, hn, _⟩ := hv.word (i - 66) (by omega)
      rw [show 66 + (i - 66) = i by omega, Array.getElem?_eq_getElem hi] at hn
      rw [Option.some.inj hn]
      rfl
  have Hld := hidden (ld_row hb Tryd.underlying55 rfl 131 iSp hsz)
  have HZ := hidden hsz
  have H1 := hidden h1
  have HH := hidden h
  have HBx := hidden (show cs.size = 131 ∧ cs[0]? = some (.int .i64 first) ∧ cs[1]? = some (.int .i64 count) ∧ BmIn cs 2 u ∧ BmIn cs 66 v ∧ cs[130]? = some (.int .i64 res) from ⟨hsz, q0, q1, hu, hv, q2⟩)
  have HI := hidden iSp
  clear hb h hu hv q0 q1 q2 h1 hsz iSp
  go_enter Tryd.func13, Tryd.ntmps13
  go_wp2_with (first
    | (go_at_call 44; refine A.out.mono ?_; rintro e w1 ⟨rfl, rfl⟩)
    | (refine wl_load 55 _ rfl rfl _ rfl cs Hld.out ?_)
    | (refine wl_store 55 _ _ rfl rfl rfl _ rfl cs rfl (run_storeAt_new w 55 _ cs (by rw [HI.out, HZ.out]) (by rw [HZ.out]; rfl) H1.out) ?_))
  go_returns
  exact ⟨w.heap.size, rfl, Nat.le_refl _, ⟨⟨cs, blk_new w _, HBx.out⟩, HH.out.fits, HH.out.inU, HH.out.inV⟩, same_alloc _ _⟩
set_option maxHeartbeats 2000000 in
set_option maxRecDepth 100000 in
theorem sp_newNo (first count : Int) (w : World) (hf : first ≤ 9223372036854775807) (h : ¬ (0 ≤ first ∧ 1 ≤ count ∧ first + count ≤ 4096)) :
    Calls Tryd.prog 30 #[.int .i64 first, .int .i64 count] w fun r w' => r = .returned (.tuple #[.pointer none, .int .i64 1]) ∧ w = w' := by
  by_cases h1 : first < 0
  · go_enter Tryd.func30, Tryd.ntmps30
    go_wp2
    go_returns
    exact ⟨rfl, rfl⟩
  by_cases h2 : count < 1
  · go_enter Tryd.func30, Tryd.ntmps30
    go_wp2
    go_returns
    exact ⟨rfl, rfl⟩
  · have h3 : 4096 - first < count := by omega
    have m1 : IntKind.i64.wrap (4096 - first) = 4096 - first := by rw [IntKind.wrap_i64]; omega
    go_enter Tryd.func30, Tryd.ntmps30
    go_wp2
    go_returns
    exact ⟨rfl, rfl⟩
end Go.Proofs.YtbmbdidmbdanmaaDoor
