/- layout's Journal, Data, Kind, CheckSuper, walked. -/
import Derived.Test.YtilkpboegpfijaaDoorLay1
namespace Go.Proofs.YtilkpboegpfijaaDoor
open Go.RowKit
set_option linter.unusedVariables false

theorem same_alloc (w : World) (o : Obj) : Same w (w.alloc o) := (Kept.refl _ _).alloc _
theorem within_yes (n lo hi : Int) (w : World) (h : lo ≤ n ∧ n ≤ hi) : Calls Tryd.prog 53 #[.int .i64 n, .int .i64 lo, .int .i64 hi] w fun e w' => e = .returned (.bool true) ∧ w = w' := by
  have k := within_any n lo hi w
  rw [decide_eq_true h] at k
  exact k
theorem within_no (n lo hi : Int) (w : World) (h : ¬ (lo ≤ n ∧ n ≤ hi)) : Calls Tryd.prog 53 #[.int .i64 n, .int .i64 lo, .int .i64 hi] w fun e w' => e = .returned (.bool false) ∧ w = w' := by
  have k := within_any n lo hi w
  rw [decide_eq_false h] at k
  exact k
/-- A box's cell behind a second box and a call. -/
theorem box_cell2 {w w1 : World} {cs : Array Value} {t : TypeId} {o : Obj} {v : Value} (j : Nat) (k : Same ((w.alloc (.cells cs t)).alloc o) w1) (h : cs[j]? = some v) : w1.cell? ⟨w.heap.size, j, none⟩ = some v :=
  (blk_cell (blk_kept k (fun h => h) (blk_alloc (blk_new w _) o))).trans h
theorem size_alloc (w : World) (o : Obj) : (w.alloc o).heap.size = w.heap.size + 1 := by simp
/-- The second block's cells. -/
theorem res_cells {w w1 : World} {cs : Array Value} {t : TypeId} {o : Obj} (k : Same ((w.alloc o).alloc (.cells cs t)) w1) : w1.heap[w.heap.size + 1]? = some (.cells cs t (0, 0)) := by
  have h := blk_kept k (fun h => h) (blk_new (w.alloc o) (.cells cs t))
  rw [size_alloc] at h
  exact h
/-- Stores into a block that the call has made leave all as it was. -/
theorem Same.put {w w1 : World} (k : Same w w1) {g j : Nat} {v : Value} (h : w.heap.size ≤ g) : Same w (w1.setCell ⟨g, j, none⟩ v) := k.setNew h v
set_option maxHeartbeats 1000000 in
set_option maxRecDepth 100000 in
theorem journal_yes (sector sectors journal pack cmin cnorm cmax : Int) (seed : Nat) (nbits : Int) (dd : Bool) (w : World) (h : Shp sector sectors journal pack cmin cnorm cmax nbits) :
    Calls Tryd.prog 28 #[.agg #[.int .i64 sector, .int .i64 sectors, .int .i64 journal, .int .i64 pack, .int .i64 cmin, .int .i64 cnorm, .int .i64 cmax, .int .u64 seed, .int .i64 nbits, .bool dd]] w fun e w' => e = .returned (.agg #[.int .i64 2, .int .i64 journal]) ∧ Same w w' := by
  have hc := fun w => check_any sector sectors journal pack cmin cnorm cmax seed nbits dd w
  rw [shpErr_yes h] at hc
  have HC := hidden hc
  clear hc h
  go_enter Tryd.func28, Tryd.ntmps28
  go_wp2_with (go_at_call 26; refine (HC.out _).mono ?_; rintro e w1 ⟨rfl, k1⟩; have c2 := box_cell2 2 k1 rfl; have rb := res_cells k1; have r0 : w1.cell? ⟨w.heap.size + 1, 0, none⟩ = some (.int .i64 0) := blk_cell rb; have r1 : w1.cell? ⟨w.heap.size + 1, 1, none⟩ = some (.int .i64 0) := blk_cell rb; have f0 : w1.frozen? ⟨w.heap.size + 1, 0, none⟩ = false := blk_free rb; have f1 : w1.frozen? ⟨w.heap.size + 1, 1, none⟩ = false := blk_free rb; clear rb)
  refine bodyPost_ret (v := .agg #[.int .i64 2, .int .i64 journal]) (by simp [results, Tryd.results28, go_sem, r0, r1]) rfl ⟨rfl, ?_⟩
  exact Same.put (Same.put (Kept.trans (Kept.alloc (same_alloc _ _) _) k1) (by omega)) (by omega)
set_option maxHeartbeats 1000000 in
set_option maxRecDepth 100000 in
theorem journal_no (sector sectors journal pack cmin cnorm cmax : Int) (seed : Nat) (nbits : Int) (dd : Bool) (w : World) (h : ¬ Shp sector sectors journal pack cmin cnorm cmax nbits) :
    Calls Tryd.prog 28 #[.agg #[.int .i64 sector, .int .i64 sectors, .int .i64 journal, .int .i64 pack, .int .i64 cmin, .int .i64 cnorm, .int .i64 cmax, .int .u64 seed, .int .i64 nbits, .bool dd]] w fun e w' => e = .returned (.agg #[.int .i64 0, .int .i64 0]) ∧ Same w w' := by
  have hc := fun w => check_any sector sectors journal pack cmin cnorm cmax seed nbits dd w
  rw [shpErr_no h] at hc
  have HC := hidden hc
  clear hc h
  go_enter Tryd.func28, Tryd.ntmps28
  go_wp2_with (go_at_call 26; refine (HC.out _).mono ?_; rintro e w1 ⟨rfl, k1⟩; have rb := res_cells k1; have r0 : w1.cell? ⟨w.heap.size + 1, 0, none⟩ = some (.int .i64 0) := blk_cell rb; have r1 : w1.cell? ⟨w.heap.size + 1, 1, none⟩ = some (.int .i64 0) := blk_cell rb; have f0 : w1.frozen? ⟨w.heap.size + 1, 0, none⟩ = false := blk_free rb; have f1 : w1.frozen? ⟨w.heap.size + 1, 1, none⟩ = false := blk_free rb; clear rb)
  refine bodyPost_ret (v := .agg #[.int .i64 0, .int .i64 0]) (by simp [results, Tryd.results28, go_sem, r0, r1]) rfl ⟨rfl, ?_⟩
  exact Same.put (Same.put (Kept.trans (Kept.alloc (same_alloc _ _) _) k1) (by omega)) (by omega)
theorem box_block2 {w w1 : World} {cs : Array Value} {t : TypeId} {o : Obj} (k : Same ((w.alloc (.cells cs t)).alloc o) w1) : w1.heap[w.heap.size]? = some (.cells cs t (0, 0)) :=
  blk_kept k (fun h => h) (blk_alloc (blk_new w _) o)
set_option maxHeartbeats 1000000 in
set_option maxRecDepth 100000 in
theorem data_yes (sector sectors journal pack cmin cnorm cmax : Int) (seed : Nat) (nbits : Int) (dd : Bool) (w : World) (h : Shp sector sectors journal pack cmin cnorm cmax nbits) :
    Calls Tryd.prog 29 #[.agg #[.int .i64 sector, .int .i64 sectors, .int .i64 journal, .int .i64 pack, .int .i64 cmin, .int .i64 cnorm, .int .i64 cmax, .int .u64 seed, .int .i64 nbits, .bool dd]] w fun e w' => e = .returned (.agg #[.int .i64 (2 + journal), .int .i64 (sectors - (2 + journal))]) ∧ Same w w' := by
  have hc := fun w => journal_yes sector sectors journal pack cmin cnorm cmax seed nbits dd w h
  have HC := hidden hc
  have hb1 := h.2.1
  have hb2 := h.2.2.1
  clear hc h
  go_enter Tryd.func29, Tryd.ntmps29
  go_wp2_with (go_at_call 28; refine (HC.out _).mono ?_; rintro e w1 ⟨rfl, k1⟩; have bb := box_block2 k1; have rb := res_cells k1; have c2 : ∀ o, (w1.alloc o).cell? ⟨w.heap.size, 1, none⟩ = some (.int .i64 sectors) := (fun o => blk_cell (blk_alloc bb o)); have r0 : ∀ o, (w1.alloc o).cell? ⟨w.heap.size + 1, 0, none⟩ = some (.int .i64 0) := (fun o => blk_cell (blk_alloc rb o)); have r1 : ∀ o, (w1.alloc o).cell? ⟨w.heap.size + 1, 1, none⟩ = some (.int .i64 0) := (fun o => blk_cell (blk_alloc rb o)); have f0 : ∀ o, (w1.alloc o).frozen? ⟨w.heap.size + 1, 0, none⟩ = false := (fun o => blk_free (blk_alloc rb o)); have f1 : ∀ o, (w1.alloc o).frozen? ⟨w.heap.size + 1, 1, none⟩ = false := (fun o => blk_free (blk_alloc rb o)); clear rb bb)
  refine bodyPost_ret (v := .agg #[.int .i64 (2 + journal), .int .i64 (sectors - (2 + journal))]) (by simp [results, Tryd.results29, go_sem, r0, r1]) rfl ⟨rfl, ?_⟩
  exact Same.put (Same.put (Kept.alloc (Kept.trans (Kept.alloc (same_alloc _ _) _) k1) _) (by omega)) (by omega)
set_option maxHeartbeats 1000000 in
set_option maxRecDepth 100000 in
theorem data_no (sector sectors journal pack cmin cnorm cmax : Int) (seed : Nat) (nbits : Int) (dd : Bool) (w : World) (h : ¬ Shp sector sectors journal pack cmin cnorm cmax nbits) :
    Calls Tryd.prog 29 #[.agg #[.int .i64 sector, .int .i64 sectors, .int .i64 journal, .int .i64 pack, .int .i64 cmin, .int .i64 cnorm, .int .i64 cmax, .int .u64 seed, .int .i64 nbits, .bool dd]] w fun e w' => e = .returned (.agg #[.int .i64 0, .int .i64 0]) ∧ Same w w' := by
  have hc := fun w => journal_no sector sectors journal pack cmin cnorm cmax seed nbits dd w h
  have HC := hidden hc
  clear hc h
  go_enter Tryd.func29, Tryd.ntmps29
  go_wp2_with (go_at_call 28; refine (HC.out _).mono ?_; rintro e w1 ⟨rfl, k1⟩; have rb := res_cells k1; have r0 : ∀ o, (w1.alloc o).cell? ⟨w.heap.size + 1, 0, none⟩ = some (.int .i64 0) := (fun o => blk_cell (blk_alloc rb o)); have r1 : ∀ o, (w1.alloc o).cell? ⟨w.heap.size + 1, 1, none⟩ = some (.int .i64 0) := (fun o => blk_cell (blk_alloc rb o)); have f0 : ∀ o, (w1.alloc o).frozen? ⟨w.heap.size + 1, 0, none⟩ = false := (fun o => blk_free (blk_alloc rb o)); have f1 : ∀ o, (w1.alloc o).frozen? ⟨w.heap.size + 1, 1, none⟩ = false := (fun o => blk_free (blk_alloc rb o)); clear rb)
  refine bodyPost_ret (v := .agg #[.int .i64 0, .int .i64 0]) (by simp [results, Tryd.results29, go_sem, r0, r1]) rfl ⟨rfl, ?_⟩
  exact Same.put (Same.put (Kept.alloc (Kept.trans (Kept.alloc (same_alloc _ _) _) k1) _) (by omega)) (by omega)
set_option maxHeartbeats 1000000 in
set_option maxRecDepth 100000 in
theorem kind_no (sector sectors journal pack cmin cnorm cmax : Int) (seed : Nat) (nbits : Int) (dd : Bool) (n : Int) (w : World) (h : ¬ Shp sector sectors journal pack cmin cnorm cmax nbits) :
    Calls Tryd.prog 27 #[.agg #[.int .i64 sector, .int .i64 sectors, .int .i64 journal, .int .i64 pack, .int .i64 cmin, .int .i64 cnorm, .int .i64 cmax, .int .u64 seed, .int .i64 nbits, .bool dd], .int .i64 n] w fun e w' => e = .returned (.int .i64 0) ∧ Same w w' := by
  have hc := fun w => data_no sector sectors journal pack cmin cnorm cmax seed nbits dd w h
  have HC := hidden hc
  clear hc h
  go_enter Tryd.func27, Tryd.ntmps27
  go_wp2_with (go_at_call 29; refine (HC.out _).mono ?_; rintro e w1 ⟨rfl, k1⟩)
  go_returns
  exact ⟨rfl, Kept.alloc (Kept.trans (same_alloc _ _) k1) _⟩
set_option maxHeartbeats 1000000 in
set_option maxRecDepth 100000 in
theorem kind_yes (sector sectors journal pack cmin cnorm cmax : Int) (seed : Nat) (nbits : Int) (dd : Bool) (n : Int) (w : World) (h : Shp sector sectors journal pack cmin cnorm cmax nbits) :
    Calls Tryd.prog 27 #[.agg #[.int .i64 sector, .int .i64 sectors, .int .i64 journal, .int .i64 pack, .int .i64 cmin, .int .i64 cnorm, .int .i64 cmax, .int .u64 seed, .int .i64 nbits, .bool dd], .int .i64 n] w fun e w' => e = .returned (.int .i64 (kindOf sectors journal n)) ∧ Same w w' := by
  have hc := fun w => data_yes sector sectors journal pack cmin cnorm cmax seed nbits dd w h
  have HC := hidden hc
  have hb1 := h.2.1
  have hb2 := h.2.2.1
  clear hc h
  have hcase : (n < 0 ∨ sectors ≤ n) ∨ (0 ≤ n ∧ n < 2) ∨ (2 ≤ n ∧ n < 2 + journal) ∨ (2 + journal ≤ n ∧ n < sectors) := by omega
  have hk : kindOf sectors journal n = if n < 0 ∨ sectors ≤ n then 0 else if n < 2 then 1 else if n < 2 + journal then 2 else 3 := rfl
  have HK := hidden hk
  clear hk
  rcases hcase with (hn | hn) | hn | hn | hn
  all_goals
    go_enter Tryd.func27, Tryd.ntmps27
    go_wp2_with (first
      | (go_at_call 29; refine (HC.out _).mono ?_; rintro e w1 ⟨rfl, k1⟩; have bb := blk_kept k1 (fun h => h) (blk_new w _); have c1 : ∀ o, (w1.alloc o).cell? ⟨w.heap.size, 1, none⟩ = some (.int .i64 sectors) := (fun o => blk_cell (blk_alloc bb o)); clear bb)
      | (go_at_call 53; refine (within_yes _ _ _ _ (by omega)).mono ?_; rintro e w1 ⟨rfl, rfl⟩)
      | (go_at_call 53; refine (within_no _ _ _ _ (by omega)).mono ?_; rintro e w1 ⟨rfl, rfl⟩))
    go_returns
    refine ⟨?_, Kept.alloc (Kept.trans (same_alloc _ _) k1) _⟩
    rw [HK.out]
    first
      | (rw [if_pos (by omega)]; rfl)
      | (rw [if_neg (by omega), if_pos (by omega)]; rfl)
      | (rw [if_neg (by omega), if_neg (by omega), if_pos (by omega)]; rfl)
      | (rw [if_neg (by omega), if_neg (by omega), if_neg (by omega)]; rfl)
/-- What CheckSuper tells. -/
def supErr (sectors journal root : Int) (ok : Prop) [Decidable ok] : Int := if ok then (if root ≠ 0 ∧ kindOf sectors journal root ≠ 3 then 40 else 0) else 41
set_option maxHeartbeats 1000000 in
set_option maxRecDepth 100000 in
theorem csup_any (gen : Nat) (root : Int) (sector sectors journal pack cmin cnorm cmax : Int) (seed : Nat) (nbits : Int) (dd : Bool) (w : World) :
    Calls Tryd.prog 67 #[.agg #[.int .u64 gen, .int .i64 root, .int .i64 sector, .int .i64 sectors, .int .i64 journal, .int .i64 pack, .int .i64 cmin, .int .i64 cnorm, .int .i64 cmax, .int .u64 seed, .int .i64 nbits, .bool dd]] w fun e w' => e = .returned (.int .i64 (supErr sectors journal root (Shp sector sectors journal pack cmin cnorm cmax nbits))) ∧ Same w w' := by
  have hc := fun w => check_any sector sectors journal pack cmin cnorm cmax seed nbits dd w
  by_cases h : Shp sector sectors journal pack cmin cnorm cmax nbits
  · rw [shpErr_yes h] at hc
    have hk := fun w => kind_yes sector sectors journal pack cmin cnorm cmax seed nbits dd root w h
    have he : supErr sectors journal root (Shp sector sectors journal pack cmin cnorm cmax nbits) = if root ≠ 0 ∧ kindOf sectors journal root ≠ 3 then 40 else 0 := if_pos h
    generalize kindOf sectors journal root = K at hk he
    have HC := hidden hc
    have HK := hidden hk
    have HE := hidden he
    clear hc hk he h
    by_cases h0 : root = 0
    · go_enter Tryd.func67, Tryd.ntmps67
      go_wp2_with (go_at_call 26; refine (HC.out _).mono ?_; rintro e w1 ⟨rfl, k1⟩; have c1 := box_cell 1 k1 rfl)
      go_returns
      refine ⟨?_, Kept.trans (same_alloc _ _) k1⟩
      rw [HE.out, if_neg (fun h => h.1 h0)]
      rfl
    · have h0b : (root != 0) = true := by simpa using h0
      rcases (show ((K != 3) = false ∧ K = 3) ∨ ((K != 3) = true ∧ ¬ K = 3) by by_cases h : K = 3 <;> simp [h]) with ⟨h3b, h3⟩ | ⟨h3b, h3⟩
      all_goals
        go_enter Tryd.func67, Tryd.ntmps67
        go_wp2_with (first
          | (go_at_call 26; refine (HC.out _).mono ?_; rintro e w1 ⟨rfl, k1⟩; have bb := blk_kept k1 (fun h => h) (blk_new w _); have c1 : w1.cell? ⟨w.heap.size, 1, none⟩ = some (.int .i64 root) := blk_cell bb; have c2 : w1.cell? ⟨w.heap.size, 2, none⟩ = some (.int .i64 sector) := blk_cell bb; have c3 : w1.cell? ⟨w.heap.size, 3, none⟩ = some (.int .i64 sectors) := blk_cell bb; have c4 : w1.cell? ⟨w.heap.size, 4, none⟩ = some (.int .i64 journal) := blk_cell bb; have c5 : w1.cell? ⟨w.heap.size, 5, none⟩ = some (.int .i64 pack) := blk_cell bb; have c6 : w1.cell? ⟨w.heap.size, 6, none⟩ = some (.int .i64 cmin) := blk_cell bb; have c7 : w1.cell? ⟨w.heap.size, 7, none⟩ = some (.int .i64 cnorm) := blk_cell bb; have c8 : w1.cell? ⟨w.heap.size, 8, none⟩ = some (.int .i64 cmax) := blk_cell bb; have c9 : w1.cell? ⟨w.heap.size, 9, none⟩ = some (.int .u64 seed) := blk_cell bb; have c10 : w1.cell? ⟨w.heap.size, 10, none⟩ = some (.int .i64 nbits) := blk_cell bb; have c11 : w1.cell? ⟨w.heap.size, 11, none⟩ = some (.bool dd) := blk_cell bb; clear bb)
          | (go_at_call 27; refine (HK.out _).mono ?_; rintro e w2 ⟨rfl, k2⟩))
        go_returns
        refine ⟨?_, Kept.trans (Kept.trans (same_alloc _ _) k1) k2⟩
        rw [HE.out]
        first
          | (rw [if_neg (fun h => h.2 h3)]; rfl)
          | (rw [if_pos ⟨h0, h3⟩]; rfl)
  · rw [shpErr_no h] at hc
    have he : supErr sectors journal root (Shp sector sectors journal pack cmin cnorm cmax nbits) = 41 := if_neg h
    have HC := hidden hc
    have HE := hidden he
    clear hc he h
    go_enter Tryd.func67, Tryd.ntmps67
    go_wp2_with (go_at_call 26; refine (HC.out _).mono ?_; rintro e w1 ⟨rfl, k1⟩)
    go_returns
    exact ⟨by rw [HE.out]; rfl, Kept.trans (same_alloc _ _) k1⟩
end Go.Proofs.YtilkpboegpfijaaDoor
