/- LayoutParts at a shape that Check takes. -/
import Derived.Test.YtilkpboegpfijaaDoorLayK
import Derived.Deep.RegionWith
import Derived.Deep.RegionLaw
import Derived.Test.YtilkpboegpfijaaDoorLPar1
namespace Go.Proofs.YtilkpboegpfijaaDoor
open Go.RowKit
set_option linter.unusedVariables false
attribute [local go_sem ↓] Go.wp_at_zero Go.wp_at_succ

def pF (V : Value) (b : Nat) (x21 x22 x23 x24 x3 x4 : Value) : Act := { tmps := #[V, .pointer (some ⟨b, 0, none⟩), .bool false, x3, x4, undef, undef, .bool true, .bool false, V, .int .i64 0, .bool false, undef, undef, undef, undef, undef, undef, undef, undef, undef, x21, x22, x23, x24, undef, undef, undef, undef, undef, undef, undef, undef, undef, undef, undef, undef, undef, undef, undef, undef, undef, undef, undef, undef, undef, undef, undef, undef, undef, undef, undef, undef, undef, undef, undef, undef, undef, undef, undef, undef, undef, undef, undef, undef, undef, undef, undef, undef, undef, undef, undef, undef, undef, undef, undef, undef, undef, undef, undef, undef, undef, undef, undef, undef, undef, undef, undef, undef, undef, undef, undef, undef, undef, undef, undef, undef, undef, undef, undef, undef, undef, undef, undef, undef, undef, undef, undef, undef, undef, undef], defers := [] }
set_option maxHeartbeats 8000000 in
set_option maxRecDepth 100000 in
theorem parts_yes (sector sectors journal pack cmin cnorm cmax : Int) (seed : Nat) (nbits : Int) (dd : Bool) (w : World) (hseed : seed < 18446744073709551616) (hT : Tab w) (h : Shp sector sectors journal pack cmin cnorm cmax nbits) : Calls Tryd.prog 6 #[.agg #[.int .i64 sector, .int .i64 sectors, .int .i64 journal, .int .i64 pack, .int .i64 cmin, .int .i64 cnorm, .int .i64 cmax, .int .u64 seed, .int .i64 nbits, .bool dd]] w fun e w' => e = .returned (.bool true) ∧ Same w w' := by
  have a0 := fun w ht => lay_awake w ht
  have A0 := hidden a0
  have HT := hidden hT
  have a1 := fun w => check_any sector sectors journal pack cmin cnorm cmax seed nbits dd w
  rw [shpErr_yes h] at a1
  have a2 := fun w => journal_yes sector sectors journal pack cmin cnorm cmax seed nbits dd w h
  have a3 := fun w => data_yes sector sectors journal pack cmin cnorm cmax seed nbits dd w h
  have a4 := fun n w => kind_yes sector sectors journal pack cmin cnorm cmax seed nbits dd n w h
  have A1 := hidden a1
  have A2 := hidden a2
  have A3 := hidden a3
  have A4 := hidden a4
  have HS := hidden h
  clear a0 a1 a2 a3 a4 hT h
  have K : Same (w.alloc (.cells #[.int .i64 sector, .int .i64 sectors, .int .i64 journal, .int .i64 pack, .int .i64 cmin, .int .i64 cnorm, .int .i64 cmax, .int .u64 seed, .int .i64 nbits, .bool dd] 58)) (w.alloc (.cells #[.int .i64 sector, .int .i64 sectors, .int .i64 journal, .int .i64 pack, .int .i64 cmin, .int .i64 cnorm, .int .i64 cmax, .int .u64 seed, .int .i64 nbits, .bool dd] 58)) := Kept.refl _ _
  go_enter Tryd.func6, Tryd.ntmps6
  go_wp2_with (first
    | (go_at_call 25; (first | refine (A0.out _ (HT.out.same (Kept.trans (same_alloc _ _) K))).mono ?_ | refine (A0.out _ (HT.out.same (Kept.trans (same_alloc _ _) (Kept.drew K)))).mono ?_); rintro e wn ⟨rfl, kn⟩; (first | have K := Kept.trans K kn | have K := Kept.trans (Kept.drew K) kn); have c0 : wn.cell? ⟨w.heap.size, 0, none⟩ = some (.int .i64 sector) := box_cell 0 K rfl; have c1 : wn.cell? ⟨w.heap.size, 1, none⟩ = some (.int .i64 sectors) := box_cell 1 K rfl; have c2 : wn.cell? ⟨w.heap.size, 2, none⟩ = some (.int .i64 journal) := box_cell 2 K rfl; have c3 : wn.cell? ⟨w.heap.size, 3, none⟩ = some (.int .i64 pack) := box_cell 3 K rfl; have c4 : wn.cell? ⟨w.heap.size, 4, none⟩ = some (.int .i64 cmin) := box_cell 4 K rfl; have c5 : wn.cell? ⟨w.heap.size, 5, none⟩ = some (.int .i64 cnorm) := box_cell 5 K rfl; have c6 : wn.cell? ⟨w.heap.size, 6, none⟩ = some (.int .i64 cmax) := box_cell 6 K rfl; have c7 : wn.cell? ⟨w.heap.size, 7, none⟩ = some (.int .u64 seed) := box_cell 7 K rfl; have c8 : wn.cell? ⟨w.heap.size, 8, none⟩ = some (.int .i64 nbits) := box_cell 8 K rfl; have c9 : wn.cell? ⟨w.heap.size, 9, none⟩ = some (.bool dd) := box_cell 9 K rfl)
    | (go_at_call 26; refine (A1.out _).mono ?_; rintro e wn ⟨rfl, kn⟩; (first | have K := Kept.trans K kn | have K := Kept.trans (Kept.drew K) kn); have c0 : wn.cell? ⟨w.heap.size, 0, none⟩ = some (.int .i64 sector) := box_cell 0 K rfl; have c1 : wn.cell? ⟨w.heap.size, 1, none⟩ = some (.int .i64 sectors) := box_cell 1 K rfl; have c2 : wn.cell? ⟨w.heap.size, 2, none⟩ = some (.int .i64 journal) := box_cell 2 K rfl; have c3 : wn.cell? ⟨w.heap.size, 3, none⟩ = some (.int .i64 pack) := box_cell 3 K rfl; have c4 : wn.cell? ⟨w.heap.size, 4, none⟩ = some (.int .i64 cmin) := box_cell 4 K rfl; have c5 : wn.cell? ⟨w.heap.size, 5, none⟩ = some (.int .i64 cnorm) := box_cell 5 K rfl; have c6 : wn.cell? ⟨w.heap.size, 6, none⟩ = some (.int .i64 cmax) := box_cell 6 K rfl; have c7 : wn.cell? ⟨w.heap.size, 7, none⟩ = some (.int .u64 seed) := box_cell 7 K rfl; have c8 : wn.cell? ⟨w.heap.size, 8, none⟩ = some (.int .i64 nbits) := box_cell 8 K rfl; have c9 : wn.cell? ⟨w.heap.size, 9, none⟩ = some (.bool dd) := box_cell 9 K rfl))
  refine wp_region_eight (I := fun b0 b1 b2 b3 b4 b5 b6 b7 a W => ∃ x21 x22 x23 x24 x3 x4 k3 k4, PI (pF (.agg #[.int .i64 sector, .int .i64 sectors, .int .i64 journal, .int .i64 pack, .int .i64 cmin, .int .i64 cnorm, .int .i64 cmax, .int .u64 seed, .int .i64 nbits, .bool dd]) w.heap.size) (w.alloc (.cells #[.int .i64 sector, .int .i64 sectors, .int .i64 journal, .int .i64 pack, .int .i64 cmin, .int .i64 cnorm, .int .i64 cmax, .int .u64 seed, .int .i64 nbits, .bool dd] 58)) (.agg #[.int .i64 sector, .int .i64 sectors, .int .i64 journal, .int .i64 pack, .int .i64 cmin, .int .i64 cnorm, .int .i64 cmax, .int .u64 seed, .int .i64 nbits, .bool dd]) (.agg #[.int .i64 2, .int .i64 journal]) (.agg #[.int .i64 (2 + journal), .int .i64 (sectors - (2 + journal))]) #[.int .i64 2, .int .i64 journal] #[.int .i64 (2 + journal), .int .i64 (sectors - (2 + journal))] #[.int .i64 0, .int .i64 0] 62 b0 b1 b2 b3 b4 b5 b6 b7 a W x21 x22 x23 x24 x3 x4 k3 k4) (by kernel_rfl) rfl (by kernel_rfl) (by kernel_rfl) (by kernel_rfl) ⟨_, _, _, _, _, _, _, _, PI.first rfl K.drew⟩ ?hend ?s0 ?s1 ?s2 ?s3 ?s4 ?s5 ?s6 ?s7
  case s0 =>
    rintro b1 b2 b3 b4 b5 b6 b7 a W ⟨x21, x22, x23, x24, x3, x4, k3, k4, h⟩
    clear c0 c1 c2 c3 c4 c5 c6 c7 c8 c9
    have c0 : W.cell? ⟨w.heap.size, 0, none⟩ = some (.int .i64 sector) := box_cell 0 h.kept rfl; have c1 : W.cell? ⟨w.heap.size, 1, none⟩ = some (.int .i64 sectors) := box_cell 1 h.kept rfl; have c2 : W.cell? ⟨w.heap.size, 2, none⟩ = some (.int .i64 journal) := box_cell 2 h.kept rfl; have c3 : W.cell? ⟨w.heap.size, 3, none⟩ = some (.int .i64 pack) := box_cell 3 h.kept rfl; have c4 : W.cell? ⟨w.heap.size, 4, none⟩ = some (.int .i64 cmin) := box_cell 4 h.kept rfl; have c5 : W.cell? ⟨w.heap.size, 5, none⟩ = some (.int .i64 cnorm) := box_cell 5 h.kept rfl; have c6 : W.cell? ⟨w.heap.size, 6, none⟩ = some (.int .i64 cmax) := box_cell 6 h.kept rfl; have c7 : W.cell? ⟨w.heap.size, 7, none⟩ = some (.int .u64 seed) := box_cell 7 h.kept rfl; have c8 : W.cell? ⟨w.heap.size, 8, none⟩ = some (.int .i64 nbits) := box_cell 8 h.kept rfl; have c9 : W.cell? ⟨w.heap.size, 9, none⟩ = some (.bool dd) := box_cell 9 h.kept rfl
    have hf := h.frame
    subst hf
    unfold pF
    refine wpOp_step rfl (fun K' hK => ?_)
    have HK := hidden hK
    clear hK
    go_simp
    exact HK.out _ _ ⟨_, _, _, _, _, _, _, _, h.r0⟩
  case s2 =>
    rintro b0 b1 b3 b4 b5 b6 b7 a W ⟨x21, x22, x23, x24, x3, x4, k3, k4, h⟩
    clear c0 c1 c2 c3 c4 c5 c6 c7 c8 c9
    have c0 : W.cell? ⟨w.heap.size, 0, none⟩ = some (.int .i64 sector) := box_cell 0 h.kept rfl; have c1 : W.cell? ⟨w.heap.size, 1, none⟩ = some (.int .i64 sectors) := box_cell 1 h.kept rfl; have c2 : W.cell? ⟨w.heap.size, 2, none⟩ = some (.int .i64 journal) := box_cell 2 h.kept rfl; have c3 : W.cell? ⟨w.heap.size, 3, none⟩ = some (.int .i64 pack) := box_cell 3 h.kept rfl; have c4 : W.cell? ⟨w.heap.size, 4, none⟩ = some (.int .i64 cmin) := box_cell 4 h.kept rfl; have c5 : W.cell? ⟨w.heap.size, 5, none⟩ = some (.int .i64 cnorm) := box_cell 5 h.kept rfl; have c6 : W.cell? ⟨w.heap.size, 6, none⟩ = some (.int .i64 cmax) := box_cell 6 h.kept rfl; have c7 : W.cell? ⟨w.heap.size, 7, none⟩ = some (.int .u64 seed) := box_cell 7 h.kept rfl; have c8 : W.cell? ⟨w.heap.size, 8, none⟩ = some (.int .i64 nbits) := box_cell 8 h.kept rfl; have c9 : W.cell? ⟨w.heap.size, 9, none⟩ = some (.bool dd) := box_cell 9 h.kept rfl
    have hf := h.frame
    subst hf
    unfold pF
    refine wpOp_step rfl (fun K' hK => ?_)
    have HK := hidden hK
    clear hK
    go_simp
    exact HK.out _ _ ⟨_, _, _, _, _, _, _, _, h.r2⟩
  case s1 =>
    rintro b2 b3 b4 b5 b6 b7 a W ⟨x21, x22, x23, x24, x3, x4, k3, k4, h⟩
    obtain rfl := h.v21 rfl
    have hf := h.frame
    subst hf
    unfold pF
    refine wpOp_step rfl (fun K' hK => ?_)
    have HK := hidden hK
    clear hK
    go_simp
    refine (A2.out _).mono ?_
    rintro e wz ⟨rfl, kz⟩
    go_simp
    exact HK.out _ _ ⟨_, _, _, _, _, _, _, _, h.r1 kz⟩
  case s3 =>
    rintro b0 b4 b5 b6 b7 a W ⟨x21, x22, x23, x24, x3, x4, k3, k4, h⟩
    obtain rfl := h.v23 rfl
    have hf := h.frame
    subst hf
    unfold pF
    refine wpOp_step rfl (fun K' hK => ?_)
    have HK := hidden hK
    clear hK
    go_simp
    refine (A3.out _).mono ?_
    rintro e wz ⟨rfl, kz⟩
    go_simp
    exact HK.out _ _ ⟨_, _, _, _, _, _, _, _, h.r3 kz⟩
  case s4 =>
    rintro b0 b1 b2 b3 b5 b6 b7 a W ⟨x21, x22, x23, x24, x3, x4, k3, k4, h⟩
    have hf := h.frame
    subst hf
    unfold pF
    refine wpOp_step rfl (fun K' hK => ?_)
    have HK := hidden hK
    clear hK
    go_simp
    exact HK.out _ _ ⟨_, _, _, _, _, _, _, _, h.r4⟩
  case s5 =>
    rintro b0 b1 b2 b3 b4 b6 b7 a W ⟨x21, x22, x23, x24, x3, x4, k3, k4, h⟩
    have hf := h.frame
    subst hf
    unfold pF
    refine wpOp_step rfl (fun K' hK => ?_)
    have HK := hidden hK
    clear hK
    go_simp
    exact HK.out _ _ ⟨_, _, _, _, _, _, _, _, h.r5⟩
  case s6 =>
    rintro b0 b2 b7 a W ⟨x21, x22, x23, x24, x3, x4, k3, k4, h⟩
    obtain ⟨rfl, _, hb⟩ := h.p3 rfl
    obtain rfl := h.v22 rfl
    have q0 : W.cell? ⟨k3, 0, none⟩ = some (.int .i64 0) := blk_cell hb
    have q1 : W.cell? ⟨k3, 1, none⟩ = some (.int .i64 0) := blk_cell hb
    have g0 : W.frozen? ⟨k3, 0, none⟩ = false := blk_free hb
    have g1 : W.frozen? ⟨k3, 1, none⟩ = false := blk_free hb
    have hf := h.frame
    subst hf
    unfold pF
    refine wpOp_step rfl (fun K' hK => ?_)
    have HK := hidden hK
    clear hK hb
    go_simp
    exact HK.out _ _ ⟨_, _, _, _, _, _, _, _, h.r6 rfl⟩
  case s7 =>
    rintro b0 b2 a W ⟨x21, x22, x23, x24, x3, x4, k3, k4, h⟩
    obtain ⟨rfl, _, hb⟩ := h.p4 rfl
    obtain rfl := h.v24 rfl
    have q0 : W.cell? ⟨k4, 0, none⟩ = some (.int .i64 0) := blk_cell hb
    have q1 : W.cell? ⟨k4, 1, none⟩ = some (.int .i64 0) := blk_cell hb
    have g0 : W.frozen? ⟨k4, 0, none⟩ = false := blk_free hb
    have g1 : W.frozen? ⟨k4, 1, none⟩ = false := blk_free hb
    have hf := h.frame
    subst hf
    unfold pF
    refine wpOp_step rfl (fun K' hK => ?_)
    have HK := hidden hK
    clear hK hb
    go_simp
    exact HK.out _ _ ⟨_, _, _, _, _, _, _, _, h.r7 rfl⟩
  case hend =>
    rintro a W ⟨x21, x22, x23, x24, x3, x4, k3, k4, h⟩
    obtain ⟨rfl, hk3, b3⟩ := h.p3 rfl
    obtain ⟨rfl, hk4, b4⟩ := h.p4 rfl
    obtain rfl := h.v21 rfl
    obtain rfl := h.v22 rfl
    obtain rfl := h.v23 rfl
    obtain rfl := h.v24 rfl
    have K := h.kept
    have hf := h.frame
    subst hf
    clear h
    clear c0 c1 c2 c3 c4 c5 c6 c7 c8 c9
    have hb1 := HS.out.2.1
    have hb2 := HS.out.2.2.1
    have c0 : W.cell? ⟨w.heap.size, 0, none⟩ = some (.int .i64 sector) := box_cell 0 K rfl; have c1 : W.cell? ⟨w.heap.size, 1, none⟩ = some (.int .i64 sectors) := box_cell 1 K rfl; have c2 : W.cell? ⟨w.heap.size, 2, none⟩ = some (.int .i64 journal) := box_cell 2 K rfl; have c3 : W.cell? ⟨w.heap.size, 3, none⟩ = some (.int .i64 pack) := box_cell 3 K rfl; have c4 : W.cell? ⟨w.heap.size, 4, none⟩ = some (.int .i64 cmin) := box_cell 4 K rfl; have c5 : W.cell? ⟨w.heap.size, 5, none⟩ = some (.int .i64 cnorm) := box_cell 5 K rfl; have c6 : W.cell? ⟨w.heap.size, 6, none⟩ = some (.int .i64 cmax) := box_cell 6 K rfl; have c7 : W.cell? ⟨w.heap.size, 7, none⟩ = some (.int .u64 seed) := box_cell 7 K rfl; have c8 : W.cell? ⟨w.heap.size, 8, none⟩ = some (.int .i64 nbits) := box_cell 8 K rfl; have c9 : W.cell? ⟨w.heap.size, 9, none⟩ = some (.bool dd) := box_cell 9 K rfl
    have e30 : W.cell? ⟨k3, 0, none⟩ = some (.int .i64 2) := blk_cell b3
    have e31 : W.cell? ⟨k3, 1, none⟩ = some (.int .i64 journal) := blk_cell b3
    have e40 : W.cell? ⟨k4, 0, none⟩ = some (.int .i64 (2 + journal)) := blk_cell b4
    have e41 : W.cell? ⟨k4, 1, none⟩ = some (.int .i64 (sectors - (2 + journal))) := blk_cell b4
    have b3' := hidden b3
    have b4' := hidden b4
    clear b3 b4
    have m1 : IntKind.i64.wrap (2 + journal) = 2 + journal := by rw [IntKind.wrap_i64]; omega
    have m2 : IntKind.i64.wrap (2 + journal + (sectors - (2 + journal))) = sectors := by rw [IntKind.wrap_i64]; omega
    unfold pF
    go_wp2
    clear c0 c1 c2 c3 c4 c5 c6 c7 c8 c9 e30 e31 e40 e41
    go_loopw [5] (fun n wr => ∃ i : Int, 0 ≤ i ∧ i ≤ sectors ∧ n = .int .i64 i ∧ Same W wr) (fun n _ => (sectors - intOf n).toNat)
    case atStart => exact ⟨0, by omega, by omega, rfl, Kept.refl _ _⟩
    case round =>
      obtain ⟨i, hi0, hi1, rfl, J⟩ := hrel
      have KR := Kept.trans K J
      have c0 : wr.cell? ⟨w.heap.size, 0, none⟩ = some (.int .i64 sector) := box_cell 0 KR rfl; have c1 : wr.cell? ⟨w.heap.size, 1, none⟩ = some (.int .i64 sectors) := box_cell 1 KR rfl; have c2 : wr.cell? ⟨w.heap.size, 2, none⟩ = some (.int .i64 journal) := box_cell 2 KR rfl; have c3 : wr.cell? ⟨w.heap.size, 3, none⟩ = some (.int .i64 pack) := box_cell 3 KR rfl; have c4 : wr.cell? ⟨w.heap.size, 4, none⟩ = some (.int .i64 cmin) := box_cell 4 KR rfl; have c5 : wr.cell? ⟨w.heap.size, 5, none⟩ = some (.int .i64 cnorm) := box_cell 5 KR rfl; have c6 : wr.cell? ⟨w.heap.size, 6, none⟩ = some (.int .i64 cmax) := box_cell 6 KR rfl; have c7 : wr.cell? ⟨w.heap.size, 7, none⟩ = some (.int .u64 seed) := box_cell 7 KR rfl; have c8 : wr.cell? ⟨w.heap.size, 8, none⟩ = some (.int .i64 nbits) := box_cell 8 KR rfl; have c9 : wr.cell? ⟨w.heap.size, 9, none⟩ = some (.bool dd) := box_cell 9 KR rfl
      have e30 : wr.cell? ⟨k3, 0, none⟩ = some (.int .i64 2) := blk_cell (blk_kept J (fun h => h) b3'.out)
      have e31 : wr.cell? ⟨k3, 1, none⟩ = some (.int .i64 journal) := blk_cell (blk_kept J (fun h => h) b3'.out)
      have e40 : wr.cell? ⟨k4, 0, none⟩ = some (.int .i64 (2 + journal)) := blk_cell (blk_kept J (fun h => h) b4'.out)
      by_cases hlt : i < sectors
      · have hcase : (kindOf sectors journal i = 1 ∧ i < 2) ∨ (kindOf sectors journal i = 2 ∧ 2 ≤ i ∧ i < 2 + journal) ∨ (kindOf sectors journal i = 3 ∧ 2 ≤ i ∧ 2 + journal ≤ i) := by
          unfold kindOf
          rw [if_neg (by omega)]
          by_cases q1 : i < 2
          · rw [if_pos q1]; exact Or.inl ⟨rfl, q1⟩
          · rw [if_neg q1]
            by_cases q2 : i < 2 + journal
            · rw [if_pos q2]; exact Or.inr (Or.inl ⟨rfl, by omega, q2⟩)
            · rw [if_neg q2]; exact Or.inr (Or.inr ⟨rfl, by omega, by omega⟩)
        have a5 := fun w => A4.out i w
        have J' := hidden J
        have KR' := hidden KR
        clear J KR
        rcases hcase with ⟨hE, q⟩ | ⟨hE, q, q'⟩ | ⟨hE, q, q'⟩
        all_goals
          rw [hE] at a5
          have A5 := hidden a5
          clear a5 hE
          go_wp2_with (go_at_call 27; refine (A5.out _).mono ?_; rintro e wn ⟨rfl, kn⟩; have kn' := hidden kn; clear kn; have KN := hidden (Kept.trans KR'.out kn'.out); have c0 : wn.cell? ⟨w.heap.size, 0, none⟩ = some (.int .i64 sector) := box_cell 0 KN.out rfl; have c1 : wn.cell? ⟨w.heap.size, 1, none⟩ = some (.int .i64 sectors) := box_cell 1 KN.out rfl; have c2 : wn.cell? ⟨w.heap.size, 2, none⟩ = some (.int .i64 journal) := box_cell 2 KN.out rfl; have c3 : wn.cell? ⟨w.heap.size, 3, none⟩ = some (.int .i64 pack) := box_cell 3 KN.out rfl; have c4 : wn.cell? ⟨w.heap.size, 4, none⟩ = some (.int .i64 cmin) := box_cell 4 KN.out rfl; have c5 : wn.cell? ⟨w.heap.size, 5, none⟩ = some (.int .i64 cnorm) := box_cell 5 KN.out rfl; have c6 : wn.cell? ⟨w.heap.size, 6, none⟩ = some (.int .i64 cmax) := box_cell 6 KN.out rfl; have c7 : wn.cell? ⟨w.heap.size, 7, none⟩ = some (.int .u64 seed) := box_cell 7 KN.out rfl; have c8 : wn.cell? ⟨w.heap.size, 8, none⟩ = some (.int .i64 nbits) := box_cell 8 KN.out rfl; have c9 : wn.cell? ⟨w.heap.size, 9, none⟩ = some (.bool dd) := box_cell 9 KN.out rfl; have e30 : wn.cell? ⟨k3, 0, none⟩ = some (.int .i64 2) := blk_cell (blk_kept kn'.out (fun h => h) (blk_kept J'.out (fun h => h) b3'.out)); have e40 : wn.cell? ⟨k4, 0, none⟩ = some (.int .i64 (2 + journal)) := blk_cell (blk_kept kn'.out (fun h => h) (blk_kept J'.out (fun h => h) b4'.out)))
          go_roundw
          case rel => exact ⟨i + 1, by omega, by omega, by go_num, Kept.trans J'.out kn'.out⟩
          case measure => simp [intOf]; omega
      · have a5 := fun w => A4.out (-1) w
        have a6 := fun w => A4.out sectors w
        rw [show kindOf sectors journal (-1) = 0 from if_pos (by omega)] at a5
        rw [show kindOf sectors journal sectors = 0 from if_pos (by omega)] at a6
        have A5 := hidden a5
        have A6 := hidden a6
        have J' := hidden J
        have KR' := hidden KR
        clear a5 a6 J KR e30 e31 e40 A4 A1 A2 A3 A0 HT HS
        have tok := True.intro
        go_wp2_with (first
          | (go_at_call 27; have _t := tok; refine (A5.out _).mono ?_; rintro e wn ⟨rfl, kn⟩; have kn' := hidden kn; clear kn tok; have KN := hidden (Kept.trans KR'.out kn'.out); have c0 : wn.cell? ⟨w.heap.size, 0, none⟩ = some (.int .i64 sector) := box_cell 0 KN.out rfl; have c1 : wn.cell? ⟨w.heap.size, 1, none⟩ = some (.int .i64 sectors) := box_cell 1 KN.out rfl; have c2 : wn.cell? ⟨w.heap.size, 2, none⟩ = some (.int .i64 journal) := box_cell 2 KN.out rfl; have c3 : wn.cell? ⟨w.heap.size, 3, none⟩ = some (.int .i64 pack) := box_cell 3 KN.out rfl; have c4 : wn.cell? ⟨w.heap.size, 4, none⟩ = some (.int .i64 cmin) := box_cell 4 KN.out rfl; have c5 : wn.cell? ⟨w.heap.size, 5, none⟩ = some (.int .i64 cnorm) := box_cell 5 KN.out rfl; have c6 : wn.cell? ⟨w.heap.size, 6, none⟩ = some (.int .i64 cmax) := box_cell 6 KN.out rfl; have c7 : wn.cell? ⟨w.heap.size, 7, none⟩ = some (.int .u64 seed) := box_cell 7 KN.out rfl; have c8 : wn.cell? ⟨w.heap.size, 8, none⟩ = some (.int .i64 nbits) := box_cell 8 KN.out rfl; have c9 : wn.cell? ⟨w.heap.size, 9, none⟩ = some (.bool dd) := box_cell 9 KN.out rfl)
          | (go_at_call 27; refine (A6.out _).mono ?_; rintro e wz ⟨rfl, kz⟩; have kz' := hidden kz; clear kz))
        go_returns
        exact ⟨rfl, Kept.trans (same_alloc _ _) (Kept.trans KN.out kz'.out)⟩
end Go.Proofs.YtilkpboegpfijaaDoor
