/- The document's power, Check, Journal, Data, Kind, CheckSuper, walked. -/
import Derived.Test.YtlilgfcacoooaaaDoorLay2
namespace Go.Proofs.YtlilgfcacoooaaaDoor
open Go.RowKit
set_option linter.unusedVariables false

theorem pow_next {P : Int} (h : Pow P) : Pow (P * 2) ∨ P * 2 = 131072 := by unfold Pow at *; omega
theorem pow_gap {P q : Int} (h : Pow P) (hq : Pow q) (h1 : q < P * 2) : q ≤ P := by
  unfold Pow at h hq
  rcases h with rfl | rfl | rfl | rfl | rfl | rfl | rfl | rfl | rfl | rfl | rfl | rfl | rfl <;> omega
theorem pow_bounds {P : Int} (h : Pow P) : 16 ≤ P ∧ P ≤ 65536 := by unfold Pow at h; omega
set_option maxHeartbeats 1000000 in
set_option maxRecDepth 100000 in
theorem refPower (n lo hi : Int) (w : World) (hlo : Pow lo) (hhi : Pow hi) : Calls Tryd.prog 59 #[.int .i64 n, .int .i64 lo, .int .i64 hi] w fun e w' => e = .returned (.bool (decide (lo ≤ n ∧ n ≤ hi ∧ Pow n))) ∧ w = w' := by
  obtain ⟨R, hR⟩ : ∃ R, R = decide (lo ≤ n ∧ n ≤ hi ∧ Pow n) := ⟨_, rfl⟩
  rw [← hR]
  have hb := pow_bounds hhi
  have hl := pow_bounds hlo
  have HR := hidden hR
  clear hR
  go_enter Tryd.func59, Tryd.ntmps59
  go_wp2
  go_loop [7] (fun p => ∃ P : Int, p = .int .i64 P ∧ lo ≤ P ∧ (Pow P ∨ P = 131072) ∧ ∀ q, Pow q → lo ≤ q → q < P → n ≠ q) (fun p => (131072 - intOf p).toNat)
  case atStart => exact ⟨lo, rfl, Int.le_refl _, Or.inl hlo, fun q _ h1 h2 => by omega⟩
  case round =>
    obtain ⟨P, rfl, hlP, hP, hq⟩ := hrel
    by_cases h1 : P ≤ hi
    · have hP' : Pow P := by rcases hP with h | h; exact h; omega
      by_cases h2 : n = P
      · go_wp2
        go_returns
        exact ⟨by rw [HR.out, decide_eq_true ⟨by omega, by omega, by rw [h2]; exact hP'⟩]; rfl, rfl⟩
      · have h2b : (n == P) = false := by simpa using h2
        have hPb := pow_bounds hP'
        go_wp2
        go_round
        case rel => exact ⟨P * 2, by go_num, by omega, pow_next hP', fun q hq1 hq2 hq3 => by
          have := pow_gap hP' hq1 hq3
          by_cases hqP : q = P
          · rw [hqP]; exact h2
          · exact hq q hq1 hq2 (by omega)⟩
        case measure => simp [intOf]; omega
    · go_wp2
      go_returns
      refine ⟨?_, rfl⟩
      rw [HR.out, decide_eq_false]
      · rfl
      · rintro ⟨a1, a2, a3⟩
        exact hq n a3 a1 (by omega) rfl
set_option maxHeartbeats 4000000 in
set_option maxRecDepth 100000 in
theorem refCheck_any (sector sectors journal pack cmin cnorm cmax : Int) (seed : Nat) (nbits : Int) (dd : Bool) (w : World) :
    Calls Tryd.prog 17 #[.agg #[.int .i64 sector, .int .i64 sectors, .int .i64 journal, .int .i64 pack, .int .i64 cmin, .int .i64 cnorm, .int .i64 cmax, .int .u64 seed, .int .i64 nbits, .bool dd]] w fun e w' => e = .returned (.int .i64 (shpErr sector sectors journal pack cmin cnorm cmax nbits)) ∧ Same w w' := by
  have h1 := fun w => refPower sector 512 4096 w (by unfold Pow; decide) (by unfold Pow; decide)
  have h2 := fun w => refPower cnorm 16 65536 w (by unfold Pow; decide) (by unfold Pow; decide)
  by_cases hs : 512 ≤ sector ∧ sector ≤ 4096 ∧ Pow sector
  · rw [decide_eq_true hs] at h1
    have H1 := hidden h1
    clear h1
    by_cases hp1 : pack < 2
    · have hno : ¬ Shp sector sectors journal pack cmin cnorm cmax nbits := fun k => by have := k.2.2.2.1; omega
      have HN := hidden hno
      clear hno
      go_enter Tryd.func17, Tryd.ntmps17
      go_wp2_with (go_at_call 59; refine (H1.out _).mono ?_; rintro e w1 ⟨rfl, rfl⟩)
      all_goals
        go_returns
        exact ⟨by rw [shpErr_no HN.out]; rfl, Kept.alloc (same_alloc _ _) _⟩
    · by_cases hp2 : 64 < pack
      · have hno : ¬ Shp sector sectors journal pack cmin cnorm cmax nbits := fun k => by have := k.2.2.2.1; omega
        have HN := hidden hno
        clear hno
        go_enter Tryd.func17, Tryd.ntmps17
        go_wp2_with (go_at_call 59; refine (H1.out _).mono ?_; rintro e w1 ⟨rfl, rfl⟩)
        all_goals
          go_returns
          exact ⟨by rw [shpErr_no HN.out]; rfl, Kept.alloc (same_alloc _ _) _⟩
      · have hq := prod_small pack sector (by omega) ⟨hs.1, hs.2.1⟩
        have hw1 : IntKind.i64.wrap (pack * sector) = pack * sector := by rw [IntKind.wrap_i64]; omega
        have hw2 : IntKind.i64.wrap (pack * sector - 40) = pack * sector - 40 := by rw [IntKind.wrap_i64]; omega
        clear hq
        by_cases hn : 16 ≤ cnorm ∧ cnorm ≤ 65536 ∧ Pow cnorm
        · rw [decide_eq_true hn] at h2
          have H2 := hidden h2
          clear h2
          have hsec : sector ≤ 4096 := hs.2.1
          have hn1 := hn.1
          have hn2 := hn.2.1
          have tok : True := trivial
          go_enter Tryd.func17, Tryd.ntmps17
          go_wp2_with (first
            | (go_at_call 59; have _t := tok; refine (H1.out _).mono ?_; rintro e w1 ⟨rfl, rfl⟩; clear tok)
            | (go_at_call 59; refine (H2.out _).mono ?_; rintro e w1 ⟨rfl, rfl⟩))
          all_goals
            go_returns
            refine ⟨?_, Kept.alloc (same_alloc _ _) _⟩
            first
              | (rw [shpErr_yes (by unfold Shp CutOk; refine ⟨hs, ⟨by omega, by omega⟩, ⟨by omega, by omega⟩, ⟨by omega, by omega⟩, ⟨hn, ⟨by omega, by omega⟩, ⟨by omega, by omega⟩, by omega⟩, ⟨by omega, by omega⟩⟩)]; rfl)
              | (rw [shpErr_no (by unfold Shp CutOk; rintro ⟨b1, b2, b3, b4, ⟨b5, b6, b7, b8⟩, b9⟩; omega)]; rfl)
        · rw [decide_eq_false hn] at h2
          have H2 := hidden h2
          have hno : ¬ Shp sector sectors journal pack cmin cnorm cmax nbits := fun k => hn k.2.2.2.2.1.1
          have HN := hidden hno
          clear hno h2
          have tok : True := trivial
          go_enter Tryd.func17, Tryd.ntmps17
          go_wp2_with (first
            | (go_at_call 59; have _t := tok; refine (H1.out _).mono ?_; rintro e w1 ⟨rfl, rfl⟩; clear tok)
            | (go_at_call 59; refine (H2.out _).mono ?_; rintro e w1 ⟨rfl, rfl⟩))
          all_goals
            go_returns
            exact ⟨by rw [shpErr_no HN.out]; rfl, Kept.alloc (same_alloc _ _) _⟩
  · rw [decide_eq_false hs] at h1
    have H1 := hidden h1
    have hno : ¬ Shp sector sectors journal pack cmin cnorm cmax nbits := fun k => hs k.1
    have HN := hidden hno
    clear h1 hno
    go_enter Tryd.func17, Tryd.ntmps17
    go_wp2_with (go_at_call 59; refine (H1.out _).mono ?_; rintro e w1 ⟨rfl, rfl⟩)
    go_returns
    exact ⟨by rw [shpErr_no HN.out]; rfl, Kept.alloc (same_alloc _ _) _⟩
set_option maxHeartbeats 1000000 in
set_option maxRecDepth 100000 in
theorem refJournal_yes (sector sectors journal pack cmin cnorm cmax : Int) (seed : Nat) (nbits : Int) (dd : Bool) (w : World) (h : Shp sector sectors journal pack cmin cnorm cmax nbits) :
    Calls Tryd.prog 19 #[.agg #[.int .i64 sector, .int .i64 sectors, .int .i64 journal, .int .i64 pack, .int .i64 cmin, .int .i64 cnorm, .int .i64 cmax, .int .u64 seed, .int .i64 nbits, .bool dd]] w fun e w' => e = .returned (.agg #[.int .i64 2, .int .i64 journal]) ∧ Same w w' := by
  have hc := fun w => refCheck_any sector sectors journal pack cmin cnorm cmax seed nbits dd w
  rw [shpErr_yes h] at hc
  have HC := hidden hc
  clear hc h
  go_enter Tryd.func19, Tryd.ntmps19
  go_wp2_with (go_at_call 17; refine (HC.out _).mono ?_; rintro e w1 ⟨rfl, k1⟩; have c2 := box_cell2 2 k1 rfl; have rb := res_cells k1; have r0 : w1.cell? ⟨w.heap.size + 1, 0, none⟩ = some (.int .i64 0) := blk_cell rb; have r1 : w1.cell? ⟨w.heap.size + 1, 1, none⟩ = some (.int .i64 0) := blk_cell rb; have f0 : w1.frozen? ⟨w.heap.size + 1, 0, none⟩ = false := blk_free rb; have f1 : w1.frozen? ⟨w.heap.size + 1, 1, none⟩ = false := blk_free rb; clear rb)
  refine bodyPost_ret (v := .agg #[.int .i64 2, .int .i64 journal]) (by simp [results, Tryd.results19, go_sem, r0, r1]) rfl ⟨rfl, ?_⟩
  exact Same.put (Same.put (Kept.trans (Kept.alloc (same_alloc _ _) _) k1) (by omega)) (by omega)
set_option maxHeartbeats 1000000 in
set_option maxRecDepth 100000 in
theorem refJournal_no (sector sectors journal pack cmin cnorm cmax : Int) (seed : Nat) (nbits : Int) (dd : Bool) (w : World) (h : ¬ Shp sector sectors journal pack cmin cnorm cmax nbits) :
    Calls Tryd.prog 19 #[.agg #[.int .i64 sector, .int .i64 sectors, .int .i64 journal, .int .i64 pack, .int .i64 cmin, .int .i64 cnorm, .int .i64 cmax, .int .u64 seed, .int .i64 nbits, .bool dd]] w fun e w' => e = .returned (.agg #[.int .i64 0, .int .i64 0]) ∧ Same w w' := by
  have hc := fun w => refCheck_any sector sectors journal pack cmin cnorm cmax seed nbits dd w
  rw [shpErr_no h] at hc
  have HC := hidden hc
  clear hc h
  go_enter Tryd.func19, Tryd.ntmps19
  go_wp2_with (go_at_call 17; refine (HC.out _).mono ?_; rintro e w1 ⟨rfl, k1⟩; have rb := res_cells k1; have r0 : w1.cell? ⟨w.heap.size + 1, 0, none⟩ = some (.int .i64 0) := blk_cell rb; have r1 : w1.cell? ⟨w.heap.size + 1, 1, none⟩ = some (.int .i64 0) := blk_cell rb; have f0 : w1.frozen? ⟨w.heap.size + 1, 0, none⟩ = false := blk_free rb; have f1 : w1.frozen? ⟨w.heap.size + 1, 1, none⟩ = false := blk_free rb; clear rb)
  refine bodyPost_ret (v := .agg #[.int .i64 0, .int .i64 0]) (by simp [results, Tryd.results19, go_sem, r0, r1]) rfl ⟨rfl, ?_⟩
  exact Same.put (Same.put (Kept.trans (Kept.alloc (same_alloc _ _) _) k1) (by omega)) (by omega)
set_option maxHeartbeats 1000000 in
set_option maxRecDepth 100000 in
theorem refData_yes (sector sectors journal pack cmin cnorm cmax : Int) (seed : Nat) (nbits : Int) (dd : Bool) (w : World) (h : Shp sector sectors journal pack cmin cnorm cmax nbits) :
    Calls Tryd.prog 21 #[.agg #[.int .i64 sector, .int .i64 sectors, .int .i64 journal, .int .i64 pack, .int .i64 cmin, .int .i64 cnorm, .int .i64 cmax, .int .u64 seed, .int .i64 nbits, .bool dd]] w fun e w' => e = .returned (.agg #[.int .i64 (2 + journal), .int .i64 (sectors - (2 + journal))]) ∧ Same w w' := by
  have hc := fun w => refCheck_any sector sectors journal pack cmin cnorm cmax seed nbits dd w
  rw [shpErr_yes h] at hc
  have HC := hidden hc
  have hb1 := h.2.1
  have hb2 := h.2.2.1
  clear hc h
  go_enter Tryd.func21, Tryd.ntmps21
  go_wp2_with (go_at_call 17; refine (HC.out _).mono ?_; rintro e w1 ⟨rfl, k1⟩; have bb := box_block2 k1; have rb := res_cells k1; have c1 : w1.cell? ⟨w.heap.size, 1, none⟩ = some (.int .i64 sectors) := blk_cell bb; have c2 : w1.cell? ⟨w.heap.size, 2, none⟩ = some (.int .i64 journal) := blk_cell bb; have r0 : w1.cell? ⟨w.heap.size + 1, 0, none⟩ = some (.int .i64 0) := blk_cell rb; have r1 : w1.cell? ⟨w.heap.size + 1, 1, none⟩ = some (.int .i64 0) := blk_cell rb; have f0 : w1.frozen? ⟨w.heap.size + 1, 0, none⟩ = false := blk_free rb; have f1 : w1.frozen? ⟨w.heap.size + 1, 1, none⟩ = false := blk_free rb; clear rb bb)
  rw [show sectors - (2 + journal) = sectors - 2 - journal by omega]
  refine bodyPost_ret (v := .agg #[.int .i64 (2 + journal), .int .i64 (sectors - 2 - journal)]) (by simp [results, Tryd.results21, go_sem, r0, r1]) rfl ⟨rfl, ?_⟩
  exact Same.put (Same.put (Kept.trans (Kept.alloc (same_alloc _ _) _) k1) (by omega)) (by omega)
set_option maxHeartbeats 1000000 in
set_option maxRecDepth 100000 in
theorem refData_no (sector sectors journal pack cmin cnorm cmax : Int) (seed : Nat) (nbits : Int) (dd : Bool) (w : World) (h : ¬ Shp sector sectors journal pack cmin cnorm cmax nbits) :
    Calls Tryd.prog 21 #[.agg #[.int .i64 sector, .int .i64 sectors, .int .i64 journal, .int .i64 pack, .int .i64 cmin, .int .i64 cnorm, .int .i64 cmax, .int .u64 seed, .int .i64 nbits, .bool dd]] w fun e w' => e = .returned (.agg #[.int .i64 0, .int .i64 0]) ∧ Same w w' := by
  have hc := fun w => refCheck_any sector sectors journal pack cmin cnorm cmax seed nbits dd w
  rw [shpErr_no h] at hc
  have HC := hidden hc
  clear hc h
  go_enter Tryd.func21, Tryd.ntmps21
  go_wp2_with (go_at_call 17; refine (HC.out _).mono ?_; rintro e w1 ⟨rfl, k1⟩; have bb := box_block2 k1; have rb := res_cells k1; have c1 : w1.cell? ⟨w.heap.size, 1, none⟩ = some (.int .i64 sectors) := blk_cell bb; have c2 : w1.cell? ⟨w.heap.size, 2, none⟩ = some (.int .i64 journal) := blk_cell bb; have r0 : w1.cell? ⟨w.heap.size + 1, 0, none⟩ = some (.int .i64 0) := blk_cell rb; have r1 : w1.cell? ⟨w.heap.size + 1, 1, none⟩ = some (.int .i64 0) := blk_cell rb; have f0 : w1.frozen? ⟨w.heap.size + 1, 0, none⟩ = false := blk_free rb; have f1 : w1.frozen? ⟨w.heap.size + 1, 1, none⟩ = false := blk_free rb; clear rb bb)
  refine bodyPost_ret (v := .agg #[.int .i64 0, .int .i64 0]) (by simp [results, Tryd.results21, go_sem, r0, r1]) rfl ⟨rfl, ?_⟩
  exact Same.put (Same.put (Kept.trans (Kept.alloc (same_alloc _ _) _) k1) (by omega)) (by omega)
set_option maxHeartbeats 1000000 in
set_option maxRecDepth 100000 in
theorem refKind_no (sector sectors journal pack cmin cnorm cmax : Int) (seed : Nat) (nbits : Int) (dd : Bool) (n : Int) (w : World) (h : ¬ Shp sector sectors journal pack cmin cnorm cmax nbits) :
    Calls Tryd.prog 23 #[.agg #[.int .i64 sector, .int .i64 sectors, .int .i64 journal, .int .i64 pack, .int .i64 cmin, .int .i64 cnorm, .int .i64 cmax, .int .u64 seed, .int .i64 nbits, .bool dd], .int .i64 n] w fun e w' => e = .returned (.int .i64 0) ∧ Same w w' := by
  have hc := fun w => refCheck_any sector sectors journal pack cmin cnorm cmax seed nbits dd w
  rw [shpErr_no h] at hc
  have HC := hidden hc
  clear hc h
  go_enter Tryd.func23, Tryd.ntmps23
  go_wp2_with (go_at_call 17; refine (HC.out _).mono ?_; rintro e w1 ⟨rfl, k1⟩)
  go_returns
  exact ⟨rfl, Kept.trans (same_alloc _ _) k1⟩
set_option maxHeartbeats 1000000 in
set_option maxRecDepth 100000 in
theorem refKind_yes (sector sectors journal pack cmin cnorm cmax : Int) (seed : Nat) (nbits : Int) (dd : Bool) (n : Int) (w : World) (h : Shp sector sectors journal pack cmin cnorm cmax nbits) :
    Calls Tryd.prog 23 #[.agg #[.int .i64 sector, .int .i64 sectors, .int .i64 journal, .int .i64 pack, .int .i64 cmin, .int .i64 cnorm, .int .i64 cmax, .int .u64 seed, .int .i64 nbits, .bool dd], .int .i64 n] w fun e w' => e = .returned (.int .i64 (kindOf sectors journal n)) ∧ Same w w' := by
  have hc := fun w => refCheck_any sector sectors journal pack cmin cnorm cmax seed nbits dd w
  rw [shpErr_yes h] at hc
  have HC := hidden hc
  have hb1 := h.2.1
  have hb2 := h.2.2.1
  clear hc h
  have hcase : (n < 0 ∨ sectors ≤ n) ∨ (0 ≤ n ∧ n < 2) ∨ (2 ≤ n ∧ n < 2 + journal) ∨ (2 + journal ≤ n ∧ n < sectors) := by omega
  have hk : kindOf sectors journal n = if n < 0 ∨ sectors ≤ n then 0 else if n < 2 then 1 else if n < 2 + journal then 2 else 3 := rfl
  have HK := hidden hk
  clear hk
  rcases hcase with (hn | hn) | hn | hn | hn
  all_goals
    go_enter Tryd.func23, Tryd.ntmps23
    go_wp2_with (go_at_call 17; refine (HC.out _).mono ?_; rintro e w1 ⟨rfl, k1⟩; have c1 : w1.cell? ⟨w.heap.size, 1, none⟩ = some (.int .i64 sectors) := box_cell 1 k1 rfl; have c2 : w1.cell? ⟨w.heap.size, 2, none⟩ = some (.int .i64 journal) := box_cell 2 k1 rfl)
    go_returns
    refine ⟨?_, Kept.trans (same_alloc _ _) k1⟩
    rw [HK.out]
    first
      | (rw [if_pos (by omega)]; rfl)
      | (rw [if_neg (by omega), if_pos (by omega)]; rfl)
      | (rw [if_neg (by omega), if_neg (by omega), if_pos (by omega)]; rfl)
      | (rw [if_neg (by omega), if_neg (by omega), if_neg (by omega)]; rfl)
set_option maxHeartbeats 1000000 in
set_option maxRecDepth 100000 in
theorem refCsup_any (gen : Nat) (root : Int) (sector sectors journal pack cmin cnorm cmax : Int) (seed : Nat) (nbits : Int) (dd : Bool) (w : World) :
    Calls Tryd.prog 25 #[.agg #[.int .u64 gen, .int .i64 root, .int .i64 sector, .int .i64 sectors, .int .i64 journal, .int .i64 pack, .int .i64 cmin, .int .i64 cnorm, .int .i64 cmax, .int .u64 seed, .int .i64 nbits, .bool dd]] w fun e w' => e = .returned (.int .i64 (supErr sectors journal root (Shp sector sectors journal pack cmin cnorm cmax nbits))) ∧ Same w w' := by
  have hc := fun w => refCheck_any sector sectors journal pack cmin cnorm cmax seed nbits dd w
  by_cases h : Shp sector sectors journal pack cmin cnorm cmax nbits
  · rw [shpErr_yes h] at hc
    have hk := fun w => refKind_yes sector sectors journal pack cmin cnorm cmax seed nbits dd root w h
    have he : supErr sectors journal root (Shp sector sectors journal pack cmin cnorm cmax nbits) = if root ≠ 0 ∧ kindOf sectors journal root ≠ 3 then 40 else 0 := if_pos h
    generalize kindOf sectors journal root = K at hk he
    have HC := hidden hc
    have HK := hidden hk
    have HE := hidden he
    clear hc hk he h
    by_cases h0 : root = 0
    · go_enter Tryd.func25, Tryd.ntmps25
      go_wp2_with (go_at_call 17; refine (HC.out _).mono ?_; rintro e w1 ⟨rfl, k1⟩; have c1 := box_cell 1 k1 rfl)
      go_returns
      refine ⟨?_, Kept.trans (same_alloc _ _) k1⟩
      rw [HE.out, if_neg (fun h => h.1 h0)]
      rfl
    · have h0b : (root != 0) = true := by simpa using h0
      rcases (show ((K != 3) = false ∧ K = 3) ∨ ((K != 3) = true ∧ ¬ K = 3) by by_cases h : K = 3 <;> simp [h]) with ⟨h3b, h3⟩ | ⟨h3b, h3⟩
      all_goals
        go_enter Tryd.func25, Tryd.ntmps25
        go_wp2_with (first
          | (go_at_call 17; refine (HC.out _).mono ?_; rintro e w1 ⟨rfl, k1⟩; have bb := blk_kept k1 (fun h => h) (blk_new w _); have c1 : w1.cell? ⟨w.heap.size, 1, none⟩ = some (.int .i64 root) := blk_cell bb; have c2 : w1.cell? ⟨w.heap.size, 2, none⟩ = some (.int .i64 sector) := blk_cell bb; have c3 : w1.cell? ⟨w.heap.size, 3, none⟩ = some (.int .i64 sectors) := blk_cell bb; have c4 : w1.cell? ⟨w.heap.size, 4, none⟩ = some (.int .i64 journal) := blk_cell bb; have c5 : w1.cell? ⟨w.heap.size, 5, none⟩ = some (.int .i64 pack) := blk_cell bb; have c6 : w1.cell? ⟨w.heap.size, 6, none⟩ = some (.int .i64 cmin) := blk_cell bb; have c7 : w1.cell? ⟨w.heap.size, 7, none⟩ = some (.int .i64 cnorm) := blk_cell bb; have c8 : w1.cell? ⟨w.heap.size, 8, none⟩ = some (.int .i64 cmax) := blk_cell bb; have c9 : w1.cell? ⟨w.heap.size, 9, none⟩ = some (.int .u64 seed) := blk_cell bb; have c10 : w1.cell? ⟨w.heap.size, 10, none⟩ = some (.int .i64 nbits) := blk_cell bb; have c11 : w1.cell? ⟨w.heap.size, 11, none⟩ = some (.bool dd) := blk_cell bb; clear bb)
          | (go_at_call 23; refine (HK.out _).mono ?_; rintro e w2 ⟨rfl, k2⟩))
        go_returns
        refine ⟨?_, Kept.trans (Kept.trans (same_alloc _ _) k1) k2⟩
        rw [HE.out]
        first
          | (rw [if_neg (fun h => h.2 h3)]; rfl)
          | (rw [if_pos ⟨h0, h3⟩]; rfl)
  · rw [shpErr_no h] at hc
    have he : supErr sectors journal root (Shp sector sectors journal pack cmin cnorm cmax nbits) = 41 := if_neg h
    have HC := hidden hc
    have HE := hidden he
    clear hc he h
    go_enter Tryd.func25, Tryd.ntmps25
    go_wp2_with (go_at_call 17; refine (HC.out _).mono ?_; rintro e w1 ⟨rfl, k1⟩)
    go_returns
    exact ⟨by rw [HE.out]; rfl, Kept.trans (same_alloc _ _) k1⟩
end Go.Proofs.YtlilgfcacoooaaaDoor
