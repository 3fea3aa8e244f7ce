/-
  LayoutEncodes (P4.2): for every superblock CheckSuper and EncodeSuper tell what the document tells, and DecodeSuper of the bytes is the superblock: the law's call returns true and leaves its argument as it was.
  Condition: the table crcSteps holds what the program's text lays (the card ties it).
-/
import Derived.Test.YtlilgfcacoooaaaDoorLayK
import Derived.Test.YtlilgfcacoooaaaDoorLay9
namespace Go.Proofs.YtlilgfcacoooaaaDoor
open Go.RowKit
set_option linter.unusedVariables false
attribute [local go_sem ↓] Go.wp_at_zero Go.wp_at_succ

theorem nil_text (W : World) : (convert 39 9 (.slice none 0 0)).run Tryd.prog W = .ok (.string ⟨#[]⟩) W :=
  run_convert_bytes_nil W 39 5 Tryd.underlying39 Tryd.underlying5 0 0 9 Tryd.underlying9
/-- A superblock that may be has no number below 0. -/
theorem sup_nat {gen : Nat} {root sector sectors journal pack cmin cnorm cmax : Int} {seed : Nat} {nbits : Int} {dd : Bool} (hg : gen < 18446744073709551616) (hs : seed < 18446744073709551616) (h : supErr sectors journal root (Shp sector sectors journal pack cmin cnorm cmax nbits) = 0) :
    ∃ root' sector' sectors' journal' pack' cmin' cnorm' cmax' nbits' : Nat, root = root' ∧ sector = sector' ∧ sectors = sectors' ∧ journal = journal' ∧ pack = pack' ∧ cmin = cmin' ∧ cnorm = cnorm' ∧ cmax = cmax' ∧ nbits = nbits' ∧ Sup gen root' sector' sectors' journal' pack' cmin' cnorm' cmax' seed nbits' dd := by
  have hsp : Shp sector sectors journal pack cmin cnorm cmax nbits := by
    apply Classical.byContradiction
    intro hn
    unfold supErr at h
    rw [if_neg hn] at h
    cases h
  have hr : 0 ≤ root := by
    apply Classical.byContradiction
    intro hn
    unfold supErr at h
    rw [if_pos hsp, if_pos ⟨by omega, by unfold kindOf; rw [if_pos (by omega)]; decide⟩] at h
    cases h
  have h' := hsp
  obtain ⟨⟨p1, _, _⟩, ⟨p2, _⟩, ⟨p3, _⟩, ⟨p4, _⟩, ⟨⟨p5, _, _⟩, ⟨p6, _⟩, ⟨p7, _⟩, _⟩, p8, _⟩ := h'
  obtain ⟨root, rfl⟩ := Int.eq_ofNat_of_zero_le hr
  obtain ⟨sector, rfl⟩ := Int.eq_ofNat_of_zero_le (show 0 ≤ sector by omega)
  obtain ⟨sectors, rfl⟩ := Int.eq_ofNat_of_zero_le (show 0 ≤ sectors by omega)
  obtain ⟨journal, rfl⟩ := Int.eq_ofNat_of_zero_le (show 0 ≤ journal by omega)
  obtain ⟨pack, rfl⟩ := Int.eq_ofNat_of_zero_le (show 0 ≤ pack by omega)
  obtain ⟨cmin, rfl⟩ := Int.eq_ofNat_of_zero_le (show 0 ≤ cmin by omega)
  obtain ⟨cnorm, rfl⟩ := Int.eq_ofNat_of_zero_le (show 0 ≤ cnorm by omega)
  obtain ⟨cmax, rfl⟩ := Int.eq_ofNat_of_zero_le (show 0 ≤ cmax by omega)
  obtain ⟨nbits, rfl⟩ := Int.eq_ofNat_of_zero_le p8
  exact ⟨root, sector, sectors, journal, pack, cmin, cnorm, cmax, nbits, rfl, rfl, rfl, rfl, rfl, rfl, rfl, rfl, rfl, hg, hs, hsp, h⟩
set_option maxHeartbeats 8000000 in
set_option maxRecDepth 100000 in
theorem encodes_no (gen : Nat) (root : Int) (sector sectors journal pack cmin cnorm cmax : Int) (seed : Nat) (nbits : Int) (dd : Bool) (w : World) (e : Int) (h : supErr sectors journal root (Shp sector sectors journal pack cmin cnorm cmax nbits) = e) (he : e ≠ 0) (hT : Tab w) : Calls Tryd.prog 6 #[.agg #[.int .u64 gen, .int .i64 root, .int .i64 sector, .int .i64 sectors, .int .i64 journal, .int .i64 pack, .int .i64 cmin, .int .i64 cnorm, .int .i64 cmax, .int .u64 seed, .int .i64 nbits, .bool dd]] w fun e w' => e = .returned (.bool true) ∧ Same w w' := by
  have A0 := hidden fun w ht => lay_awake w ht
  have HT := hidden hT
  have a1 := fun w => csup_any gen root sector sectors journal pack cmin cnorm cmax seed nbits dd w
  have a2 := fun w => refCsup_any gen root sector sectors journal pack cmin cnorm cmax seed nbits dd w
  rw [h] at a1 a2
  have A1 := hidden a1
  have A2 := hidden a2
  have A3 := hidden fun w => enc_no gen root sector sectors journal pack cmin cnorm cmax seed nbits dd w e h he
  have A4 := hidden fun w => refEnc_no gen root sector sectors journal pack cmin cnorm cmax seed nbits dd w e h he
  have hn := nil_text
  have heb : (e != 0) = true := by simpa using he
  clear a1 a2 hT h he
  have K : Same (w.alloc (.cells #[.int .u64 gen, .int .i64 root, .int .i64 sector, .int .i64 sectors, .int .i64 journal, .int .i64 pack, .int .i64 cmin, .int .i64 cnorm, .int .i64 cmax, .int .u64 seed, .int .i64 nbits, .bool dd] 37)) (w.alloc (.cells #[.int .u64 gen, .int .i64 root, .int .i64 sector, .int .i64 sectors, .int .i64 journal, .int .i64 pack, .int .i64 cmin, .int .i64 cnorm, .int .i64 cmax, .int .u64 seed, .int .i64 nbits, .bool dd] 37)) := Kept.refl _ _
  go_enter Tryd.func6, Tryd.ntmps6
  go_wp2
  go_region_with (first
    | (go_at_call 15; (first | refine (A0.out _ (HT.out.same (Kept.trans (same_alloc _ _) K))).mono ?_ | refine (A0.out _ (HT.out.same (Kept.trans (same_alloc _ _) (Kept.drew K)))).mono ?_); rintro e wn ⟨rfl, kn⟩; (first | have K := Kept.trans K kn | have K := Kept.trans (Kept.drew K) kn); have c0 : wn.cell? ⟨w.heap.size, 0, none⟩ = some (.int .u64 gen) := box_cell 0 K rfl; have c1 : wn.cell? ⟨w.heap.size, 1, none⟩ = some (.int .i64 root) := box_cell 1 K rfl; have c2 : wn.cell? ⟨w.heap.size, 2, none⟩ = some (.int .i64 sector) := box_cell 2 K rfl; have c3 : wn.cell? ⟨w.heap.size, 3, none⟩ = some (.int .i64 sectors) := box_cell 3 K rfl; have c4 : wn.cell? ⟨w.heap.size, 4, none⟩ = some (.int .i64 journal) := box_cell 4 K rfl; have c5 : wn.cell? ⟨w.heap.size, 5, none⟩ = some (.int .i64 pack) := box_cell 5 K rfl; have c6 : wn.cell? ⟨w.heap.size, 6, none⟩ = some (.int .i64 cmin) := box_cell 6 K rfl; have c7 : wn.cell? ⟨w.heap.size, 7, none⟩ = some (.int .i64 cnorm) := box_cell 7 K rfl; have c8 : wn.cell? ⟨w.heap.size, 8, none⟩ = some (.int .i64 cmax) := box_cell 8 K rfl; have c9 : wn.cell? ⟨w.heap.size, 9, none⟩ = some (.int .u64 seed) := box_cell 9 K rfl; have c10 : wn.cell? ⟨w.heap.size, 10, none⟩ = some (.int .i64 nbits) := box_cell 10 K rfl; have c11 : wn.cell? ⟨w.heap.size, 11, none⟩ = some (.bool dd) := box_cell 11 K rfl)
    | (go_at_call 24; refine (A1.out _).mono ?_; rintro e wn ⟨rfl, kn⟩; (first | have K := Kept.trans K kn | have K := Kept.trans (Kept.drew K) kn); have c0 : wn.cell? ⟨w.heap.size, 0, none⟩ = some (.int .u64 gen) := box_cell 0 K rfl; have c1 : wn.cell? ⟨w.heap.size, 1, none⟩ = some (.int .i64 root) := box_cell 1 K rfl; have c2 : wn.cell? ⟨w.heap.size, 2, none⟩ = some (.int .i64 sector) := box_cell 2 K rfl; have c3 : wn.cell? ⟨w.heap.size, 3, none⟩ = some (.int .i64 sectors) := box_cell 3 K rfl; have c4 : wn.cell? ⟨w.heap.size, 4, none⟩ = some (.int .i64 journal) := box_cell 4 K rfl; have c5 : wn.cell? ⟨w.heap.size, 5, none⟩ = some (.int .i64 pack) := box_cell 5 K rfl; have c6 : wn.cell? ⟨w.heap.size, 6, none⟩ = some (.int .i64 cmin) := box_cell 6 K rfl; have c7 : wn.cell? ⟨w.heap.size, 7, none⟩ = some (.int .i64 cnorm) := box_cell 7 K rfl; have c8 : wn.cell? ⟨w.heap.size, 8, none⟩ = some (.int .i64 cmax) := box_cell 8 K rfl; have c9 : wn.cell? ⟨w.heap.size, 9, none⟩ = some (.int .u64 seed) := box_cell 9 K rfl; have c10 : wn.cell? ⟨w.heap.size, 10, none⟩ = some (.int .i64 nbits) := box_cell 10 K rfl; have c11 : wn.cell? ⟨w.heap.size, 11, none⟩ = some (.bool dd) := box_cell 11 K rfl)
    | (go_at_call 25; refine (A2.out _).mono ?_; rintro e wn ⟨rfl, kn⟩; (first | have K := Kept.trans K kn | have K := Kept.trans (Kept.drew K) kn); have c0 : wn.cell? ⟨w.heap.size, 0, none⟩ = some (.int .u64 gen) := box_cell 0 K rfl; have c1 : wn.cell? ⟨w.heap.size, 1, none⟩ = some (.int .i64 root) := box_cell 1 K rfl; have c2 : wn.cell? ⟨w.heap.size, 2, none⟩ = some (.int .i64 sector) := box_cell 2 K rfl; have c3 : wn.cell? ⟨w.heap.size, 3, none⟩ = some (.int .i64 sectors) := box_cell 3 K rfl; have c4 : wn.cell? ⟨w.heap.size, 4, none⟩ = some (.int .i64 journal) := box_cell 4 K rfl; have c5 : wn.cell? ⟨w.heap.size, 5, none⟩ = some (.int .i64 pack) := box_cell 5 K rfl; have c6 : wn.cell? ⟨w.heap.size, 6, none⟩ = some (.int .i64 cmin) := box_cell 6 K rfl; have c7 : wn.cell? ⟨w.heap.size, 7, none⟩ = some (.int .i64 cnorm) := box_cell 7 K rfl; have c8 : wn.cell? ⟨w.heap.size, 8, none⟩ = some (.int .i64 cmax) := box_cell 8 K rfl; have c9 : wn.cell? ⟨w.heap.size, 9, none⟩ = some (.int .u64 seed) := box_cell 9 K rfl; have c10 : wn.cell? ⟨w.heap.size, 10, none⟩ = some (.int .i64 nbits) := box_cell 10 K rfl; have c11 : wn.cell? ⟨w.heap.size, 11, none⟩ = some (.bool dd) := box_cell 11 K rfl))
  all_goals
    go_wp2_with (first
      | (go_at_call 26; refine (A3.out _).mono ?_; rintro e wn ⟨rfl, kn⟩; (first | have K := Kept.trans K kn | have K := Kept.trans (Kept.drew K) kn); have c0 : wn.cell? ⟨w.heap.size, 0, none⟩ = some (.int .u64 gen) := box_cell 0 K rfl; have c1 : wn.cell? ⟨w.heap.size, 1, none⟩ = some (.int .i64 root) := box_cell 1 K rfl; have c2 : wn.cell? ⟨w.heap.size, 2, none⟩ = some (.int .i64 sector) := box_cell 2 K rfl; have c3 : wn.cell? ⟨w.heap.size, 3, none⟩ = some (.int .i64 sectors) := box_cell 3 K rfl; have c4 : wn.cell? ⟨w.heap.size, 4, none⟩ = some (.int .i64 journal) := box_cell 4 K rfl; have c5 : wn.cell? ⟨w.heap.size, 5, none⟩ = some (.int .i64 pack) := box_cell 5 K rfl; have c6 : wn.cell? ⟨w.heap.size, 6, none⟩ = some (.int .i64 cmin) := box_cell 6 K rfl; have c7 : wn.cell? ⟨w.heap.size, 7, none⟩ = some (.int .i64 cnorm) := box_cell 7 K rfl; have c8 : wn.cell? ⟨w.heap.size, 8, none⟩ = some (.int .i64 cmax) := box_cell 8 K rfl; have c9 : wn.cell? ⟨w.heap.size, 9, none⟩ = some (.int .u64 seed) := box_cell 9 K rfl; have c10 : wn.cell? ⟨w.heap.size, 10, none⟩ = some (.int .i64 nbits) := box_cell 10 K rfl; have c11 : wn.cell? ⟨w.heap.size, 11, none⟩ = some (.bool dd) := box_cell 11 K rfl)
      | (go_at_call 27; refine (A4.out _).mono ?_; rintro e wn ⟨rfl, kn⟩; (first | have K := Kept.trans K kn | have K := Kept.trans (Kept.drew K) kn); have c0 : wn.cell? ⟨w.heap.size, 0, none⟩ = some (.int .u64 gen) := box_cell 0 K rfl; have c1 : wn.cell? ⟨w.heap.size, 1, none⟩ = some (.int .i64 root) := box_cell 1 K rfl; have c2 : wn.cell? ⟨w.heap.size, 2, none⟩ = some (.int .i64 sector) := box_cell 2 K rfl; have c3 : wn.cell? ⟨w.heap.size, 3, none⟩ = some (.int .i64 sectors) := box_cell 3 K rfl; have c4 : wn.cell? ⟨w.heap.size, 4, none⟩ = some (.int .i64 journal) := box_cell 4 K rfl; have c5 : wn.cell? ⟨w.heap.size, 5, none⟩ = some (.int .i64 pack) := box_cell 5 K rfl; have c6 : wn.cell? ⟨w.heap.size, 6, none⟩ = some (.int .i64 cmin) := box_cell 6 K rfl; have c7 : wn.cell? ⟨w.heap.size, 7, none⟩ = some (.int .i64 cnorm) := box_cell 7 K rfl; have c8 : wn.cell? ⟨w.heap.size, 8, none⟩ = some (.int .i64 cmax) := box_cell 8 K rfl; have c9 : wn.cell? ⟨w.heap.size, 9, none⟩ = some (.int .u64 seed) := box_cell 9 K rfl; have c10 : wn.cell? ⟨w.heap.size, 10, none⟩ = some (.int .i64 nbits) := box_cell 10 K rfl; have c11 : wn.cell? ⟨w.heap.size, 11, none⟩ = some (.bool dd) := box_cell 11 K rfl))
    go_returns
    exact ⟨rfl, Kept.trans (same_alloc _ _) K⟩
set_option maxHeartbeats 8000000 in
set_option maxRecDepth 100000 in
theorem encodes_yes (gen root sector sectors journal pack cmin cnorm cmax seed nbits : Nat) (dd : Bool) (w : World) (h : Sup gen root sector sectors journal pack cmin cnorm cmax seed nbits dd) (hT : Tab w) : Calls Tryd.prog 6 #[.agg #[.int .u64 gen, .int .i64 root, .int .i64 sector, .int .i64 sectors, .int .i64 journal, .int .i64 pack, .int .i64 cmin, .int .i64 cnorm, .int .i64 cmax, .int .u64 seed, .int .i64 nbits, .bool dd]] w fun e w' => e = .returned (.bool true) ∧ Same w w' := by
  have A0 := hidden fun w ht => lay_awake w ht
  have HT := hidden hT
  have a1 := fun w => csup_any gen root sector sectors journal pack cmin cnorm cmax seed nbits dd w
  have a2 := fun w => refCsup_any gen root sector sectors journal pack cmin cnorm cmax seed nbits dd w
  rw [h.ok] at a1 a2
  have A1 := hidden a1
  have A2 := hidden a2
  have a3 := fun w ht => enc_yes gen root sector sectors journal pack cmin cnorm cmax seed nbits dd w ht h.g h.s h.shp h.ok (by have := h.root; omega)
  have a4 := fun w => refEnc_yes gen root sector sectors journal pack cmin cnorm cmax seed nbits dd w h
  have a5 := fun v w hb ht => dec_yes v gen root sector sectors journal pack cmin cnorm cmax seed nbits dd w hb ht h
  generalize superL gen root sector sectors journal pack cmin cnorm cmax seed nbits dd = SL at a3 a4 a5
  have A3 := hidden a3
  have A4 := hidden a4
  have A5 := hidden a5
  clear a1 a2 a3 a4 a5 hT h
  have K : Same (w.alloc (.cells #[.int .u64 gen, .int .i64 root, .int .i64 sector, .int .i64 sectors, .int .i64 journal, .int .i64 pack, .int .i64 cmin, .int .i64 cnorm, .int .i64 cmax, .int .u64 seed, .int .i64 nbits, .bool dd] 37)) (w.alloc (.cells #[.int .u64 gen, .int .i64 root, .int .i64 sector, .int .i64 sectors, .int .i64 journal, .int .i64 pack, .int .i64 cmin, .int .i64 cnorm, .int .i64 cmax, .int .u64 seed, .int .i64 nbits, .bool dd] 37)) := Kept.refl _ _
  go_enter Tryd.func6, Tryd.ntmps6
  go_wp2
  go_region_with (first
    | (go_at_call 15; (first | refine (A0.out _ (HT.out.same (Kept.trans (same_alloc _ _) K))).mono ?_ | refine (A0.out _ (HT.out.same (Kept.trans (same_alloc _ _) (Kept.drew K)))).mono ?_); rintro e wn ⟨rfl, kn⟩; (first | have K := Kept.trans K kn | have K := Kept.trans (Kept.drew K) kn); have c0 : wn.cell? ⟨w.heap.size, 0, none⟩ = some (.int .u64 gen) := box_cell 0 K rfl; have c1 : wn.cell? ⟨w.heap.size, 1, none⟩ = some (.int .i64 root) := box_cell 1 K rfl; have c2 : wn.cell? ⟨w.heap.size, 2, none⟩ = some (.int .i64 sector) := box_cell 2 K rfl; have c3 : wn.cell? ⟨w.heap.size, 3, none⟩ = some (.int .i64 sectors) := box_cell 3 K rfl; have c4 : wn.cell? ⟨w.heap.size, 4, none⟩ = some (.int .i64 journal) := box_cell 4 K rfl; have c5 : wn.cell? ⟨w.heap.size, 5, none⟩ = some (.int .i64 pack) := box_cell 5 K rfl; have c6 : wn.cell? ⟨w.heap.size, 6, none⟩ = some (.int .i64 cmin) := box_cell 6 K rfl; have c7 : wn.cell? ⟨w.heap.size, 7, none⟩ = some (.int .i64 cnorm) := box_cell 7 K rfl; have c8 : wn.cell? ⟨w.heap.size, 8, none⟩ = some (.int .i64 cmax) := box_cell 8 K rfl; have c9 : wn.cell? ⟨w.heap.size, 9, none⟩ = some (.int .u64 seed) := box_cell 9 K rfl; have c10 : wn.cell? ⟨w.heap.size, 10, none⟩ = some (.int .i64 nbits) := box_cell 10 K rfl; have c11 : wn.cell? ⟨w.heap.size, 11, none⟩ = some (.bool dd) := box_cell 11 K rfl)
    | (go_at_call 24; refine (A1.out _).mono ?_; rintro e wn ⟨rfl, kn⟩; (first | have K := Kept.trans K kn | have K := Kept.trans (Kept.drew K) kn); have c0 : wn.cell? ⟨w.heap.size, 0, none⟩ = some (.int .u64 gen) := box_cell 0 K rfl; have c1 : wn.cell? ⟨w.heap.size, 1, none⟩ = some (.int .i64 root) := box_cell 1 K rfl; have c2 : wn.cell? ⟨w.heap.size, 2, none⟩ = some (.int .i64 sector) := box_cell 2 K rfl; have c3 : wn.cell? ⟨w.heap.size, 3, none⟩ = some (.int .i64 sectors) := box_cell 3 K rfl; have c4 : wn.cell? ⟨w.heap.size, 4, none⟩ = some (.int .i64 journal) := box_cell 4 K rfl; have c5 : wn.cell? ⟨w.heap.size, 5, none⟩ = some (.int .i64 pack) := box_cell 5 K rfl; have c6 : wn.cell? ⟨w.heap.size, 6, none⟩ = some (.int .i64 cmin) := box_cell 6 K rfl; have c7 : wn.cell? ⟨w.heap.size, 7, none⟩ = some (.int .i64 cnorm) := box_cell 7 K rfl; have c8 : wn.cell? ⟨w.heap.size, 8, none⟩ = some (.int .i64 cmax) := box_cell 8 K rfl; have c9 : wn.cell? ⟨w.heap.size, 9, none⟩ = some (.int .u64 seed) := box_cell 9 K rfl; have c10 : wn.cell? ⟨w.heap.size, 10, none⟩ = some (.int .i64 nbits) := box_cell 10 K rfl; have c11 : wn.cell? ⟨w.heap.size, 11, none⟩ = some (.bool dd) := box_cell 11 K rfl)
    | (go_at_call 25; refine (A2.out _).mono ?_; rintro e wn ⟨rfl, kn⟩; (first | have K := Kept.trans K kn | have K := Kept.trans (Kept.drew K) kn); have c0 : wn.cell? ⟨w.heap.size, 0, none⟩ = some (.int .u64 gen) := box_cell 0 K rfl; have c1 : wn.cell? ⟨w.heap.size, 1, none⟩ = some (.int .i64 root) := box_cell 1 K rfl; have c2 : wn.cell? ⟨w.heap.size, 2, none⟩ = some (.int .i64 sector) := box_cell 2 K rfl; have c3 : wn.cell? ⟨w.heap.size, 3, none⟩ = some (.int .i64 sectors) := box_cell 3 K rfl; have c4 : wn.cell? ⟨w.heap.size, 4, none⟩ = some (.int .i64 journal) := box_cell 4 K rfl; have c5 : wn.cell? ⟨w.heap.size, 5, none⟩ = some (.int .i64 pack) := box_cell 5 K rfl; have c6 : wn.cell? ⟨w.heap.size, 6, none⟩ = some (.int .i64 cmin) := box_cell 6 K rfl; have c7 : wn.cell? ⟨w.heap.size, 7, none⟩ = some (.int .i64 cnorm) := box_cell 7 K rfl; have c8 : wn.cell? ⟨w.heap.size, 8, none⟩ = some (.int .i64 cmax) := box_cell 8 K rfl; have c9 : wn.cell? ⟨w.heap.size, 9, none⟩ = some (.int .u64 seed) := box_cell 9 K rfl; have c10 : wn.cell? ⟨w.heap.size, 10, none⟩ = some (.int .i64 nbits) := box_cell 10 K rfl; have c11 : wn.cell? ⟨w.heap.size, 11, none⟩ = some (.bool dd) := box_cell 11 K rfl))
  all_goals
    go_wp2_with (first
      | (go_at_call 26; (first | refine (A3.out _ (HT.out.same (Kept.trans (same_alloc _ _) K))).mono ?_ | refine (A3.out _ (HT.out.same (Kept.trans (same_alloc _ _) (Kept.drew K)))).mono ?_); rintro e wn ⟨v3, rfl, o3, kn⟩; (first | have K := Kept.trans K kn | have K := Kept.trans (Kept.drew K) kn); have c0 : wn.cell? ⟨w.heap.size, 0, none⟩ = some (.int .u64 gen) := box_cell 0 K rfl; have c1 : wn.cell? ⟨w.heap.size, 1, none⟩ = some (.int .i64 root) := box_cell 1 K rfl; have c2 : wn.cell? ⟨w.heap.size, 2, none⟩ = some (.int .i64 sector) := box_cell 2 K rfl; have c3 : wn.cell? ⟨w.heap.size, 3, none⟩ = some (.int .i64 sectors) := box_cell 3 K rfl; have c4 : wn.cell? ⟨w.heap.size, 4, none⟩ = some (.int .i64 journal) := box_cell 4 K rfl; have c5 : wn.cell? ⟨w.heap.size, 5, none⟩ = some (.int .i64 pack) := box_cell 5 K rfl; have c6 : wn.cell? ⟨w.heap.size, 6, none⟩ = some (.int .i64 cmin) := box_cell 6 K rfl; have c7 : wn.cell? ⟨w.heap.size, 7, none⟩ = some (.int .i64 cnorm) := box_cell 7 K rfl; have c8 : wn.cell? ⟨w.heap.size, 8, none⟩ = some (.int .i64 cmax) := box_cell 8 K rfl; have c9 : wn.cell? ⟨w.heap.size, 9, none⟩ = some (.int .u64 seed) := box_cell 9 K rfl; have c10 : wn.cell? ⟨w.heap.size, 10, none⟩ = some (.int .i64 nbits) := box_cell 10 K rfl; have c11 : wn.cell? ⟨w.heap.size, 11, none⟩ = some (.bool dd) := box_cell 11 K rfl)
      | (go_at_call 27; refine (A4.out _).mono ?_; rintro e wn ⟨v4, rfl, o4, kn⟩; have o5 := o3.same kn; (first | have K := Kept.trans K kn | have K := Kept.trans (Kept.drew K) kn); have c0 : wn.cell? ⟨w.heap.size, 0, none⟩ = some (.int .u64 gen) := box_cell 0 K rfl; have c1 : wn.cell? ⟨w.heap.size, 1, none⟩ = some (.int .i64 root) := box_cell 1 K rfl; have c2 : wn.cell? ⟨w.heap.size, 2, none⟩ = some (.int .i64 sector) := box_cell 2 K rfl; have c3 : wn.cell? ⟨w.heap.size, 3, none⟩ = some (.int .i64 sectors) := box_cell 3 K rfl; have c4 : wn.cell? ⟨w.heap.size, 4, none⟩ = some (.int .i64 journal) := box_cell 4 K rfl; have c5 : wn.cell? ⟨w.heap.size, 5, none⟩ = some (.int .i64 pack) := box_cell 5 K rfl; have c6 : wn.cell? ⟨w.heap.size, 6, none⟩ = some (.int .i64 cmin) := box_cell 6 K rfl; have c7 : wn.cell? ⟨w.heap.size, 7, none⟩ = some (.int .i64 cnorm) := box_cell 7 K rfl; have c8 : wn.cell? ⟨w.heap.size, 8, none⟩ = some (.int .i64 cmax) := box_cell 8 K rfl; have c9 : wn.cell? ⟨w.heap.size, 9, none⟩ = some (.int .u64 seed) := box_cell 9 K rfl; have c10 : wn.cell? ⟨w.heap.size, 10, none⟩ = some (.int .i64 nbits) := box_cell 10 K rfl; have c11 : wn.cell? ⟨w.heap.size, 11, none⟩ = some (.bool dd) := box_cell 11 K rfl; have t3 := o5.text; have t4 := o4.text)
      | (go_at_call 28; refine (A5.out _ _ o5.byt (HT.out.same (Kept.trans (same_alloc _ _) K))).mono ?_; rintro e wn ⟨rfl, kn⟩; have K := Kept.trans K kn; have bb := blk_kept K (fun h => h) (blk_new w _); have c0 : ∀ o, (wn.alloc o).cell? ⟨w.heap.size, 0, none⟩ = some (.int .u64 gen) := (fun o => blk_cell (blk_alloc bb o)); have c1 : ∀ o, (wn.alloc o).cell? ⟨w.heap.size, 1, none⟩ = some (.int .i64 root) := (fun o => blk_cell (blk_alloc bb o)); have c2 : ∀ o, (wn.alloc o).cell? ⟨w.heap.size, 2, none⟩ = some (.int .i64 sector) := (fun o => blk_cell (blk_alloc bb o)); have c3 : ∀ o, (wn.alloc o).cell? ⟨w.heap.size, 3, none⟩ = some (.int .i64 sectors) := (fun o => blk_cell (blk_alloc bb o)); have c4 : ∀ o, (wn.alloc o).cell? ⟨w.heap.size, 4, none⟩ = some (.int .i64 journal) := (fun o => blk_cell (blk_alloc bb o)); have c5 : ∀ o, (wn.alloc o).cell? ⟨w.heap.size, 5, none⟩ = some (.int .i64 pack) := (fun o => blk_cell (blk_alloc bb o)); have c6 : ∀ o, (wn.alloc o).cell? ⟨w.heap.size, 6, none⟩ = some (.int .i64 cmin) := (fun o => blk_cell (blk_alloc bb o)); have c7 : ∀ o, (wn.alloc o).cell? ⟨w.heap.size, 7, none⟩ = some (.int .i64 cnorm) := (fun o => blk_cell (blk_alloc bb o)); have c8 : ∀ o, (wn.alloc o).cell? ⟨w.heap.size, 8, none⟩ = some (.int .i64 cmax) := (fun o => blk_cell (blk_alloc bb o)); have c9 : ∀ o, (wn.alloc o).cell? ⟨w.heap.size, 9, none⟩ = some (.int .u64 seed) := (fun o => blk_cell (blk_alloc bb o)); have c10 : ∀ o, (wn.alloc o).cell? ⟨w.heap.size, 10, none⟩ = some (.int .i64 nbits) := (fun o => blk_cell (blk_alloc bb o)); have c11 : ∀ o, (wn.alloc o).cell? ⟨w.heap.size, 11, none⟩ = some (.bool dd) := (fun o => blk_cell (blk_alloc bb o)); clear bb))
    go_returns
    exact ⟨rfl, Kept.alloc (Kept.trans (same_alloc _ _) K) _⟩
theorem encodes_walk (gen : Nat) (root : Int) (sector sectors journal pack cmin cnorm cmax : Int) (seed : Nat) (nbits : Int) (dd : Bool) (w : World) (hg : gen < 18446744073709551616) (hseed : seed < 18446744073709551616) (hT : Tab w) : Calls Tryd.prog 6 #[.agg #[.int .u64 gen, .int .i64 root, .int .i64 sector, .int .i64 sectors, .int .i64 journal, .int .i64 pack, .int .i64 cmin, .int .i64 cnorm, .int .i64 cmax, .int .u64 seed, .int .i64 nbits, .bool dd]] w fun e w' => e = .returned (.bool true) ∧ Same w w' := by
  by_cases h : supErr sectors journal root (Shp sector sectors journal pack cmin cnorm cmax nbits) = 0
  · obtain ⟨root, sector, sectors, journal, pack, cmin, cnorm, cmax, nbits, rfl, rfl, rfl, rfl, rfl, rfl, rfl, rfl, rfl, hS⟩ := sup_nat (dd := dd) hg hseed h
    exact encodes_yes gen root sector sectors journal pack cmin cnorm cmax seed nbits dd w hS hT
  · exact encodes_no gen root sector sectors journal pack cmin cnorm cmax seed nbits dd w _ rfl h hT
end Go.Proofs.YtlilgfcacoooaaaDoor
namespace Go.Proofs.YtlilgfcacoooaaaDoor.LayoutEncodes
open Go.ChangeShapes Go.WideShapes Go.ChangeAt Go.RowKit Go.Joins Go.ChangeMaps
set_option maxRecDepth 100000 in
theorem contract (H : Type) (enc : TypeId × Value → H) (W : World) (base : Nat) (args : Array Value) (ds gs : List (DataW H)) (before : List MemPlace)
    (hval : ∀ (j : Nat) t v, Tryd.f6.params[j]? = some t → args[j]? = some v → Value.okWide Tryd.prog W .any base t v)
    (hW : DataW.Whole enc Tryd.prog Tryd.f6.params.toList Rows.layoutEncodesSpec.vars false W args.toList ds gs before)
    (hsz : (DataW.weightsEach Tryd.prog (Tryd.f6.params.toList ++ (OpenSpec.ofChange Rows.layoutEncodesSpec).bare.plain.varTypes Tryd.prog) (ds ++ gs)).all (· ≤ reachBytes) = true)
    (hL : laidMetH Tryd.prog Rows.layoutEncodesRow.laid W) :
    Calls Tryd.prog 6 args W fun e W' => ∃ v, e = .returned v ∧ Rows.layoutEncodesSpec.post enc Tryd.prog Tryd.f6 false true false false W args v W' := by
  have hW' := hW
  obtain ⟨p, q, hA0, hV, rfl, hfz, hnd⟩ := hW
  have hA : DataW.TrodAll enc Tryd.prog W 0 (fun _ => true) true Tryd.f6.params.toList args.toList ds p := hA0
  rw [Tryd.params6] at hA hval hsz
  obtain ⟨v0, vs0, d0, ds0, p0, q0, hargs, rfl, rfl, h0, r0⟩ := trodAll_cons hA
  obtain ⟨rfl, rfl, rfl⟩ := trodAll_nil r0
  obtain rfl : args = #[v0] := by cases args; simp_all
  obtain ⟨rfl, rfl⟩ := trodVars_none hV
  obtain ⟨gen, root, sector, sectors, journal, pack, cmin, cnorm, cmax, seed, nbits, dd, rfl, b_gen, b_seed⟩ := super_open (hval 0 37 v0 rfl rfl) h0
  refine (encodes_walk gen root sector sectors journal pack cmin cnorm cmax seed nbits dd W b_gen b_seed (tab_laid hL)).mono fun e W' ⟨he, hg⟩ => ?_
  subst he
  exact ⟨_, rfl, law_post laidOut (by rw [Tryd.params6]; decide +kernel) rfl hW' rfl Tryd.underlying4 ⟨rfl, rfl, rfl⟩ (hg.below (Nat.le_refl _) fun _ h => h.elim)⟩
set_option maxRecDepth 100000 in
theorem lifted (os : Os) (started : os.Started) (H : Type) (enc : TypeId × Value → H) (F : Stop.Interp) :
    ReturnsInHanded {} Tryd.checked os 6 .any ((OpenSpec.ofChange Rows.layoutEncodesSpec).preRow enc Tryd.prog Tryd.f6 Rows.layoutEncodesRow.domain false Rows.layoutEncodesRow.laid) (((OpenSpec.ofChange Rows.layoutEncodesSpec).at F).post enc Tryd.prog Tryd.f6 false true false false) := by
  refine returnsInHanded_of_row (C := Tryd.checked) (s := OpenSpec.ofChange Rows.layoutEncodesSpec) own started (by kernel_rfl) Tryd.func6
    (witness_row_at (enc := enc) (C := Tryd.checked) false ({ World.holding Tryd.prog os ⟨#[], #[], []⟩ with heap := (World.holding Tryd.prog os ⟨#[], #[], []⟩).heap.modify tabBlock fun | .cells _ t frozen => .cells (tabInts.map (Value.int .u32)).toArray t frozen | o => o }) #[.agg #[.int .u64 0, .int .i64 0, .int .i64 0, .int .i64 0, .int .i64 0, .int .i64 0, .int .i64 0, .int .i64 0, .int .i64 0, .int .u64 0, .int .i64 0, .bool false]] rfl (by kernel_rfl) (by kernel_rfl) (by kernel_rfl)
      (OpenSpec.preRow_of_cond (x := ([.agg [.lit (.int .u64 0), .lit (.int .i64 0), .agg [.lit (.int .i64 0), .lit (.int .i64 0), .lit (.int .i64 0), .lit (.int .i64 0), .agg [.lit (.int .i64 0), .lit (.int .i64 0), .lit (.int .i64 0), .lit (.int .u64 0)], .lit (.int .i64 0), .lit (.bool false)]]], [], [])) 8 (by kernel_rfl) (by kernel_rfl) (fun k hk => by cases hk) (by kernel_rfl) (laidMet_of_run' 8 (by kernel_rfl) (by kernel_rfl)))) ?_
  intro W base args ds gs before hval hW _ _ hsz hL _ _
  exact contract H enc W base args ds gs before hval hW hsz hL
theorem said : Rows.LayoutEncodesSaid :=
  OpenClaim.holds_of_cond 6 Tryd.f6 rfl rfl rfl rfl rfl rfl rfl ⟨rfl, rfl, rfl, rfl, rfl⟩ rfl rfl rfl rfl rfl (by kernel_rfl) Tryd.func6 (by kernel_rfl)
    (of_decide_eq_true (by kernel_rfl)) (by unfold Func.isWrapper; first | (rw [if_pos (by decide +kernel)]; kernel_rfl) | (rw [if_neg (by decide +kernel)]; exact ⟨rfl, rfl⟩))
    (fun os started H enc _ F => by rw [OpenClaim.pre_eq_preRow]; exact lifted os started H enc F)
theorem plain (f : FuncId) (fn : Func) (hf : Tryd.pinned.checked.prog.funcNamed Rows.layoutEncodesRow.func = some f) (hfn : Tryd.pinned.checked.prog.funcs[f]? = some fn) :
    false = Tryd.pinned.checked.prog.looks [] ∧ ∀ (j : Nat) t, fn.params[j]? = some t → Tryd.pinned.checked.prog.wantsStandIn t = false := by
  obtain rfl : f = 6 := Option.some.inj ((show Tryd.prog.funcNamed Rows.layoutEncodesRow.func = some 6 by kernel_rfl).symm.trans hf) |>.symm
  obtain rfl : fn = Tryd.f6 := (Option.some.inj (Tryd.func6.symm.trans hfn)).symm
  refine ⟨by kernel_rfl, fun j t ht => ?_⟩
  rw [Tryd.params6] at ht
  have hm : t ∈ [37] := by simpa using Array.mem_of_getElem? ht
  have hall : [37].all (fun t => !Tryd.prog.wantsStandIn t) = true := by kernel_rfl
  have h1 := List.all_eq_true.1 hall t hm
  have h2 : Tryd.prog.wantsStandIn t = false := by simpa using h1
  exact h2
theorem card : Rows.LayoutEncodesCardSaid :=
  Claim7.holds_tied_plain_at .later [] _ _ _ _ said (fun _ h => by cases h) (by kernel_rfl) (fun _ h => by cases h) layoutEncodes_row_tie rfl ⟨rfl, rfl⟩ (by kernel_rfl) rfl plain (by kernel_rfl)
end Go.Proofs.YtlilgfcacoooaaaDoor.LayoutEncodes
namespace Go.Proofs.YtlilgfcacoooaaaDoor
theorem layoutEncodes_card : Rows.LayoutEncodesCardSaid := LayoutEncodes.card
end Go.Proofs.YtlilgfcacoooaaaDoor
