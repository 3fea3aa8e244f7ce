/- The document's Space: count, Used, Waiting, Left, Reserve, Release, Settle. -/
import Derived.Test.YtbmbdidmbdanmaaDoorSpA
namespace Go.Proofs.YtbmbdidmbdanmaaDoor
open Go.RowKit Go.Shelf
set_option linter.unusedVariables false
set_option linter.unusedSimpArgs false
variable {zp : Spare}
/-- A space as plain values: what is used and what waits never meet, and lie within. -/
structure Pl (first count : Nat) (u v : Nat → Bool) (res : Nat) : Prop where
  fits : 1 ≤ count ∧ first + count ≤ 4096 ∧ res ≤ 4096
  inU : ∀ i, count ≤ i → i < 4096 → u i = false
  inV : ∀ i, count ≤ i → i < 4096 → v i = false
  dis : ∀ i, i < count → u i = true → v i = false
def rwA (zp : Spare) (count : Nat) (o : Nat → Int) : Array Value := ((List.range count).map fun k => Value.int .i64 (o k)).toArray ++ zp.tl
theorem rwA_at (count : Nat) (o : Nat → Int) {k : Nat} (h : k < count) : (rwA zp count o)[k]? = some (.int .i64 (o k)) := by
  unfold rwA
  rw [Array.getElem?_append_left (by simpa using h)]
  simp [h]
theorem rwA_set (count : Nat) (o : Nat → Int) (k : Nat) (x : Int) (hk : k < count) : (rwA zp count o).setIfInBounds k (.int .i64 x) = rwA zp count (fun j => if j = k then x else o j) := by
  unfold rwA
  apply Array.ext'
  simp only [Array.toList_setIfInBounds, Array.toList_append]
  rw [List.set_append, if_pos (by simpa using hk)]
  congr 1
  apply List.ext_getElem
  · simp
  · intro i h1 h2
    simp only [List.getElem_set, List.getElem_map, List.getElem_range]
    by_cases e : k = i
    · simp [e]
    · have e' : ¬ i = k := fun h => e h.symm
      simp [e, e']
theorem rwA_ext {count : Nat} {o p : Nat → Int} (h : ∀ k, k < count → o k = p k) : rwA zp count o = rwA zp count p := by
  unfold rwA
  have e : ((List.range count).map fun k => Value.int .i64 (o k)) = (List.range count).map fun k => Value.int .i64 (p k) := List.map_congr_left fun k hk => by rw [h k (List.mem_range.1 hk)]
  rw [e]
theorem RfAt.rowA {q r first count : Nat} {u v : Nat → Bool} {res : Nat} {w : World} (h : RfAt zp q r first count u v res w) : w.heap[r]? = some (.cells (rwA zp count (wh u v)) 3 (0, 0)) := h.row
theorem RfAt.of {q r first count : Nat} {u v : Nat → Bool} {res : Nat} {w : World} (hb : w.heap[q]? = some (.cells #[.int .i64 first, .slice (some ⟨r, 0, none⟩) count zp.cap, .int .i64 res] 66 (0, 0))) (hr : w.heap[r]? = some (.cells (rwA zp count (wh u v)) 3 (0, 0))) : RfAt zp q r first count u v res w := ⟨hb, hr⟩
theorem RfAt.ne {q r first count : Nat} {u v : Nat → Bool} {res : Nat} {w : World} (h : RfAt zp q r first count u v res w) : q ≠ r := fun e => by
  have h1 := h.box
  have h2 := h.row
  rw [e, h2] at h1
  have := Option.some.inj h1
  injection this with _ ht
  revert ht
  decide
/-- How many are so. -/
def cw (u v : Nat → Bool) (x : Int) (n : Nat) : Nat := cnt (fun i => decide (wh u v i = x)) n
theorem cnt_top {u : Nat → Bool} {count : Nat} (h : count ≤ 4096) (hu : ∀ i, count ≤ i → i < 4096 → u i = false) : cnt u 4096 = cnt u count := by
  have := cnt_add u count (4096 - count)
  rw [cnt_none _ (4096 - count) (fun j hj => hu _ (by omega) (by omega)), show count + (4096 - count) = 4096 by omega] at this
  omega
theorem Pl.c1 {first count : Nat} {u v : Nat → Bool} {res : Nat} (h : Pl first count u v res) : cw u v 1 count = cnt u 4096 := by
  rw [cnt_top (by have := h.fits; omega) h.inU]
  refine cnt_ext _ (fun j hj => ?_)
  have := h.dis j hj
  cases e1 : u j <;> cases e2 : v j <;> simp [wh, e1, e2]
  rw [this e1] at e2
  cases e2
theorem Pl.c2 {first count : Nat} {u v : Nat → Bool} {res : Nat} (h : Pl first count u v res) : cw u v 2 count = cnt v 4096 := by
  rw [cnt_top (by have := h.fits; omega) h.inV]
  refine cnt_ext _ (fun j hj => ?_)
  cases e1 : u j <;> cases e2 : v j <;> simp [wh, e1, e2]
theorem cw_all {u v : Nat → Bool} : ∀ n, cw u v 0 n + cw u v 1 n + cw u v 2 n = n
  | 0 => rfl
  | n + 1 => by
    have ih := cw_all (u := u) (v := v) n
    have hw : wh u v n = 0 ∨ wh u v n = 1 ∨ wh u v n = 2 := by cases e1 : u n <;> cases e2 : v n <;> simp [wh, e1, e2]
    have k0 : (decide (wh u v n = 0)).toNat + (decide (wh u v n = 1)).toNat + (decide (wh u v n = 2)).toNat = 1 := by rcases hw with e | e | e <;> rw [e] <;> rfl
    have e : ∀ x, cw u v x (n + 1) = cw u v x n + (decide (wh u v n = x)).toNat := fun x => rfl
    rw [e, e, e]
    omega
theorem Pl.c0 {first count : Nat} {u v : Nat → Bool} {res : Nat} (h : Pl first count u v res) : (cw u v 0 count : Int) - res = leftZ count u v res := by
  have h1 := h.c1
  have h2 := h.c2
  have h3 := cw_all (u := u) (v := v) count
  unfold leftZ
  omega
set_option maxHeartbeats 2000000 in
set_option maxRecDepth 100000 in
theorem rf_count (q r first count : Nat) (u v : Nat → Bool) (res : Nat) (x : Int) (w : World) (h : RfAt zp q r first count u v res w) (hc : count ≤ 4096) :
    Calls Tryd.prog 53 #[.pointer (some ⟨q, 0, none⟩), .int .i64 x] w fun e w' => e = .returned (.int .i64 (cw u v x count : Nat)) ∧ w = w' := by
  have HR := hidden h.rowA
  have c1 : w.cell? ⟨q, 1, none⟩ = some (.slice (some ⟨r, 0, none⟩) count zp.cap) := blk_cell h.box
  clear h
  go_enter Tryd.func53, Tryd.ntmps53
  go_wp2
  go_loopw [13, 5] (fun a b wr => wr = w ∧ ∃ (k y : Nat), k ≤ count ∧ a = .int .i64 k ∧ b = .int .i64 y ∧ y = cw u v x k) (fun a _ _ => count - (intOf a).toNat)
  case atStart => exact ⟨rfl, 0, 0, Nat.zero_le _, rfl, rfl, rfl⟩
  case round =>
    obtain ⟨rfl, k, y, hk, rfl, rfl, hy⟩ := hrel
    have yl : y ≤ k := by rw [hy]; exact cnt_le _ _
    have HY := hidden hy
    clear hy
    by_cases hlt : k < count
    · obtain ⟨z, hz⟩ : ∃ z, wh u v k = z := ⟨_, rfl⟩
      have rr : wr.cell? ⟨r, k, none⟩ = some (.int .i64 z) := by rw [blk_cell HR.out, rwA_at _ _ hlt, hz]
      have HZ := hidden hz
      clear hz
      have w4 : IntKind.i64.wrap ((k : Int) + 1) = (k : Int) + 1 := by rw [IntKind.wrap_i64]; omega
      have w5 : IntKind.i64.wrap ((y : Int) + 1) = (y : Int) + 1 := by rw [IntKind.wrap_i64]; omega
      have y4 : (0 : Int) ≤ (k : Int) := Int.natCast_nonneg _
      have y5 : (k : Int) < (count : Int) := by omega
      by_cases hzx : z = x
      · go_wp2
        go_roundw
        case rel =>
          refine ⟨by first | rfl | trivial, k + 1, y + 1, by omega, by go_num, by go_num, ?_⟩
          have e := HY.out
          unfold cw at *
          simp only [cnt]
          rw [e, HZ.out]
          simp [hzx]
        case measure => simp [intOf]; omega
      · go_wp2
        go_roundw
        case rel =>
          refine ⟨by first | rfl | trivial, k + 1, y, by omega, by go_num, rfl, ?_⟩
          have e := HY.out
          unfold cw at *
          simp only [cnt]
          rw [e, HZ.out]
          simp [hzx]
        case measure => simp [intOf]; omega
    · have he : k = count := by omega
      subst he
      have y5 : ¬ (k : Int) < (k : Int) := by omega
      go_wp2
      go_returns
      have hy := HY.out
      subst hy
      exact ⟨rfl, rfl⟩
set_option maxHeartbeats 2000000 in
set_option maxRecDepth 100000 in
theorem rf_used (q r first count : Nat) (u v : Nat → Bool) (res : Nat) (w : World) (h : RfAt zp q r first count u v res w) (hp : Pl first count u v res) :
    Calls Tryd.prog 39 #[.pointer (some ⟨q, 0, none⟩)] w fun e w' => e = .returned (.int .i64 (cnt u 4096 : Nat)) ∧ w = w' := by
  have C := hidden (rf_count q r first count u v res 1 w h (by have := hp.fits; omega))
  rw [hp.c1] at C
  clear h
  go_enter Tryd.func39, Tryd.ntmps39
  go_wp2_with (go_at_call 53; refine C.out.mono ?_; rintro e w1 ⟨rfl, rfl⟩)
  go_returns
  exact ⟨rfl, rfl⟩
set_option maxHeartbeats 2000000 in
set_option maxRecDepth 100000 in
theorem rf_waiting (q r first count : Nat) (u v : Nat → Bool) (res : Nat) (w : World) (h : RfAt zp q r first count u v res w) (hp : Pl first count u v res) :
    Calls Tryd.prog 40 #[.pointer (some ⟨q, 0, none⟩)] w fun e w' => e = .returned (.int .i64 (cnt v 4096 : Nat)) ∧ w = w' := by
  have C := hidden (rf_count q r first count u v res 2 w h (by have := hp.fits; omega))
  rw [hp.c2] at C
  clear h
  go_enter Tryd.func40, Tryd.ntmps40
  go_wp2_with (go_at_call 53; refine C.out.mono ?_; rintro e w1 ⟨rfl, rfl⟩)
  go_returns
  exact ⟨rfl, rfl⟩
set_option maxHeartbeats 2000000 in
set_option maxRecDepth 100000 in
theorem rf_left (q r first count : Nat) (u v : Nat → Bool) (res : Nat) (w : World) (h : RfAt zp q r first count u v res w) (hp : Pl first count u v res) :
    Calls Tryd.prog 26 #[.pointer (some ⟨q, 0, none⟩)] w fun e w' => e = .returned (.int .i64 (leftZ count u v res)) ∧ ∃ n, w' = w.drewN n := by
  have C := hidden (fun n => rf_count q r first count u v res 0 (w.drewN n) (h.kept ((Kept.refl (fun _ => False) w).drewN n) (fun h => h) (fun h => h)) (by have := hp.fits; omega))
  have c2 : w.cell? ⟨q, 2, none⟩ = some (.int .i64 res) := blk_cell h.box
  have e := hp.c0
  have l3 := hp.fits
  have l1 : cw u v 0 count ≤ count := cnt_le _ _
  generalize cw u v 0 count = y at *
  have m3 : IntKind.i64.wrap ((y : Int) - (res : Int)) = leftZ count u v res := by rw [← e, IntKind.wrap_i64]; omega
  generalize leftZ count u v res = L at *
  clear h hp e
  go_enter Tryd.func26, Tryd.ntmps26
  go_wp2
  go_quiet (first | (go_at_call 53; exact Calls.quiet_of_same ((C.out _).mono fun _ _ ⟨a, b⟩ => ⟨a, b.symm⟩)))
  go_wp2
  go_returns
  exact ⟨rfl, _, rfl⟩
theorem RfAt.newR {q r first count : Nat} {u v : Nat → Bool} {res res' : Nat} {w : World} (h : RfAt zp q r first count u v res w) : RfAt zp q r first count u v res' (w.setCell ⟨q, 2, none⟩ (.int .i64 (res' : Int))) :=
  ⟨blk_set h.box _, blk_kept ((Kept.refl (fun k => k = q) w).setCell (p := ⟨q, 2, none⟩) rfl _) (fun e => h.ne e.symm) h.row⟩
set_option maxHeartbeats 2000000 in
set_option maxRecDepth 100000 in
theorem rf_resArg (q r first count : Nat) (u v : Nat → Bool) (res : Nat) (n : Int) (w : World) (hn : n < 0) :
    Calls Tryd.prog 37 #[.pointer (some ⟨q, 0, none⟩), .int .i64 n] w fun e w' => e = .returned (.int .i64 1) ∧ Same w w' := by
  go_enter Tryd.func37, Tryd.ntmps37
  go_wp2
  go_returns
  exact ⟨rfl, Kept.refl _ _⟩
set_option maxHeartbeats 2000000 in
set_option maxRecDepth 100000 in
theorem rf_resFull (q r first count : Nat) (u v : Nat → Bool) (res : Nat) (n : Int) (w : World) (h : RfAt zp q r first count u v res w) (hp : Pl first count u v res) (h0 : 0 ≤ n) (hn : leftZ count u v res < n) :
    Calls Tryd.prog 37 #[.pointer (some ⟨q, 0, none⟩), .int .i64 n] w fun e w' => e = .returned (.int .i64 2) ∧ Same w w' := by
  have HL := hidden (rf_left q r first count u v res w h hp)
  have q0 : ¬ n < 0 := by omega
  generalize leftZ count u v res = L at *
  clear h hp
  go_enter Tryd.func37, Tryd.ntmps37
  go_wp2_with (go_at_call 26; refine HL.out.mono ?_; rintro e w2 ⟨rfl, nn, rfl⟩)
  go_returns
  exact ⟨rfl, (Kept.refl _ w).drewN _⟩
set_option maxHeartbeats 2000000 in
set_option maxRecDepth 100000 in
theorem rf_resOk (q r first count : Nat) (u v : Nat → Bool) (res : Nat) (n : Int) (w : World) (h : RfAt zp q r first count u v res w) (hp : Pl first count u v res) (h0 : 0 ≤ n) (hn : ¬ leftZ count u v res < n) :
    Calls Tryd.prog 37 #[.pointer (some ⟨q, 0, none⟩), .int .i64 n] w fun e w' => e = .returned (.int .i64 0) ∧ RfAt zp q r first count u v (res + n.toNat) w' ∧ Kept (fun b => b = q) w w' := by
  have HL := hidden (rf_left q r first count u v res w h hp)
  have HH := hidden (fun W (k : Same w W) => h.kept k (fun h => h) (fun h => h))
  have l3 := hp.fits
  have hle := left_le count u v res
  have q0 : ¬ n < 0 := by omega
  have m1 : IntKind.i64.wrap ((res : Int) + n) = (res : Int) + n := by rw [IntKind.wrap_i64]; omega
  generalize leftZ count u v res = L at *
  clear h hp
  go_enter Tryd.func37, Tryd.ntmps37
  go_wp2_with (go_at_call 26; refine HL.out.mono ?_; rintro e w2 ⟨rfl, nn, rfl⟩; have hb := (HH.out _ ((Kept.refl _ w).drewN nn)).box; have x1 : (w.drewN nn).cell? ⟨q, 2, none⟩ = some (.int .i64 res) := blk_cell hb; have x2 : (w.drewN nn).frozen? ⟨q, 2, none⟩ = false := blk_free hb; clear hb)
  go_returns
  have e : (res : Int) + n = ((res + n.toNat : Nat) : Int) := by omega
  refine ⟨rfl, ?_, ?_⟩
  · rw [e]
    exact (HH.out _ ((Kept.refl _ w).drewN nn)).newR
  · exact ((Kept.refl (fun b => b = q) w).drewN nn).setCell (p := ⟨q, 2, none⟩) rfl _
set_option maxHeartbeats 2000000 in
set_option maxRecDepth 100000 in
theorem rf_relArg (q r first count : Nat) (u v : Nat → Bool) (res : Nat) (n : Int) (w : World) (h : RfAt zp q r first count u v res w) (hn : n < 0 ∨ (res : Int) < n) :
    Calls Tryd.prog 38 #[.pointer (some ⟨q, 0, none⟩), .int .i64 n] w fun e w' => e = .returned (.int .i64 1) ∧ Same w w' := by
  have c2 : w.cell? ⟨q, 2, none⟩ = some (.int .i64 res) := blk_cell h.box
  by_cases h1 : n < 0
  · go_enter Tryd.func38, Tryd.ntmps38
    go_wp2
    go_returns
    exact ⟨rfl, Kept.refl _ _⟩
  · have h2 : (res : Int) < n := by omega
    clear hn
    go_enter Tryd.func38, Tryd.ntmps38
    go_wp2
    go_returns
    exact ⟨rfl, Kept.refl _ _⟩
set_option maxHeartbeats 2000000 in
set_option maxRecDepth 100000 in
theorem rf_relOk (q r first count : Nat) (u v : Nat → Bool) (res : Nat) (n : Int) (w : World) (h : RfAt zp q r first count u v res w) (hr : res ≤ 4096) (h0 : 0 ≤ n) (hn : ¬ (res : Int) < n) :
    Calls Tryd.prog 38 #[.pointer (some ⟨q, 0, none⟩), .int .i64 n] w fun e w' => e = .returned (.int .i64 0) ∧ RfAt zp q r first count u v (res - n.toNat) w' ∧ Kept (fun b => b = q) w w' := by
  have c2 : w.cell? ⟨q, 2, none⟩ = some (.int .i64 res) := blk_cell h.box
  have f2 : w.frozen? ⟨q, 2, none⟩ = false := blk_free h.box
  have HH := hidden h
  have h1 : ¬ n < 0 := by omega
  have m1 : IntKind.i64.wrap ((res : Int) - n) = (res : Int) - n := by rw [IntKind.wrap_i64]; omega
  clear h
  go_enter Tryd.func38, Tryd.ntmps38
  go_wp2
  go_returns
  have e : (res : Int) - n = ((res - n.toNat : Nat) : Int) := by omega
  refine ⟨rfl, ?_, ?_⟩
  · rw [e]
    exact HH.out.newR
  · exact (Kept.refl (fun b => b = q) w).setCell (p := ⟨q, 2, none⟩) rfl _
end Go.Proofs.YtbmbdidmbdanmaaDoor
