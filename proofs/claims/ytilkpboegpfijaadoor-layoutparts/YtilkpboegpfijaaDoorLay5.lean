/- layout's superOf, walked: the fields of a body. -/
import Derived.Test.YtilkpboegpfijaaDoorLay4
import Derived.Deep.RegionWith
import Derived.Deep.RegionLaw
namespace Go.Proofs.YtilkpboegpfijaaDoor
open Go.RowKit
set_option linter.unusedVariables false
attribute [local go_sem ↓] Go.wp_at_zero Go.wp_at_succ

/-- A Reader's state behind n bytes of s. -/
def rst (s : ByteArray) (n : Nat) : RSt := if n ≤ s.size then (s.extract n s.size, 0) else (⟨#[]⟩, 20)
/-- k bytes of s behind n, as a number; 0 if they are not there. -/
def fld (s : ByteArray) (n k : Nat) : Nat := if n + k ≤ s.size then num ((s.data.toList.drop n).take k) else 0
theorem rst_zero (s : ByteArray) : rst s 0 = (s, 0) := by
  unfold rst
  rw [if_pos (Nat.zero_le _)]
  congr 1
  apply ba_ext
  rw [Lib.extract_to_end, List.drop_zero]
theorem rst_take (s : ByteArray) (n k : Nat) (hk : 0 < k) : rnum (rst s n) k = fld s n k ∧ (rtake (rst s n) k).2 = rst s (n + k) := by
  unfold rst fld rnum rtake
  by_cases h : n ≤ s.size
  · rw [if_pos h]
    have hz : (s.extract n s.size).size = s.size - n := by simp
    simp only [if_pos]
    rw [hz]
    by_cases h2 : n + k ≤ s.size
    · rw [if_neg (by omega), if_pos h2, if_pos h2]
      constructor
      · simp only
        rw [Lib.extract_data, Lib.extract_to_end]
        simp
      · simp only [Prod.mk.injEq, and_true]
        apply ba_ext
        rw [Lib.extract_data, Lib.extract_to_end, Lib.extract_to_end, List.drop_drop, List.take_of_length_le (by simp; omega)]
    · rw [if_pos (by omega), if_neg h2, if_neg h2]
      exact ⟨rfl, rfl⟩
  · rw [if_neg h, if_neg (show ¬ n + k ≤ s.size by omega), if_neg (show ¬ n + k ≤ s.size by omega)]
    exact ⟨rfl, rfl⟩
theorem fld_lt (s : ByteArray) (n k : Nat) : fld s n k < 256 ^ k := by
  unfold fld
  split
  · refine Nat.lt_of_lt_of_le (num_lt _) (Nat.pow_le_pow_right (by decide) ?_)
    rw [List.length_take]; omega
  · exact Nat.pow_pos (by decide)
theorem rdU8 {g n : Nat} {s : ByteArray} {w : World} (h : Rd g (rst s n) w) : Calls Tryd.prog 14 #[.pointer (some ⟨g, 0, none⟩)] w fun x w' => x = .returned (.int .u8 (fld s n 1 : Nat)) ∧ Rd g (rst s (n + 1)) w' ∧ Kept (only g) w w' := by
  have k := rU8 h
  rw [(rst_take s n 1 (by decide)).1, (rst_take s n 1 (by decide)).2] at k
  exact k
theorem rdU16 {g n : Nat} {s : ByteArray} {w : World} (h : Rd g (rst s n) w) : Calls Tryd.prog 15 #[.pointer (some ⟨g, 0, none⟩)] w fun x w' => x = .returned (.int .u16 (fld s n 2 : Nat)) ∧ Rd g (rst s (n + 2)) w' ∧ Kept (only g) w w' := by
  have k := rU16 h
  rw [(rst_take s n 2 (by decide)).1, (rst_take s n 2 (by decide)).2] at k
  exact k
theorem rdU32 {g n : Nat} {s : ByteArray} {w : World} (h : Rd g (rst s n) w) : Calls Tryd.prog 16 #[.pointer (some ⟨g, 0, none⟩)] w fun x w' => x = .returned (.int .u32 (fld s n 4 : Nat)) ∧ Rd g (rst s (n + 4)) w' ∧ Kept (only g) w w' := by
  have k := rU32 h
  rw [(rst_take s n 4 (by decide)).1, (rst_take s n 4 (by decide)).2] at k
  exact k
theorem rdU64 {g n : Nat} {s : ByteArray} {w : World} (h : Rd g (rst s n) w) : Calls Tryd.prog 17 #[.pointer (some ⟨g, 0, none⟩)] w fun x w' => x = .returned (.int .u64 (fld s n 8 : Nat)) ∧ Rd g (rst s (n + 8)) w' ∧ Kept (only g) w w' := by
  have k := rU64 h
  rw [(rst_take s n 8 (by decide)).1, (rst_take s n 8 (by decide)).2] at k
  exact k
theorem Rd.put {g b j : Nat} {st : RSt} {w : World} {v : Value} (h : Rd g st w) (hne : b ≠ g) : Rd g st (w.setCell ⟨b, j, none⟩ v) :=
  ⟨(Below.heap_setCell _ _ _ _ (fun e => hne e.symm)).trans h.blk, h.sz⟩
theorem blk_off {w : World} {g b j : Nat} {o : Obj} {v : Value} (h : w.heap[g]? = some o) (hne : b ≠ g) : (w.setCell ⟨b, j, none⟩ v).heap[g]? = some o :=
  (Below.heap_setCell _ _ _ _ (fun e => hne e.symm)).trans h
/-- A block of twelve cells, written anew. -/
theorem fill12 {W : World} {g : Nat} {t : TypeId} {z0 z1 z2 z3 z4 z5 z6 z7 z8 z9 z10 z11 : Value} (h : W.heap[g]? = some (.cells #[z0, z1, z2, z3, z4, z5, z6, z7, z8, z9, z10, z11] t (0, 0))) (v0 v1 v2 v3 v4 v5 v6 v7 v8 v9 v10 v11 : Value) :
    ((World.setCell (World.setCell (World.setCell (World.setCell (World.setCell (World.setCell (World.setCell (World.setCell (World.setCell (World.setCell (World.setCell (World.setCell W ⟨g, 0, none⟩ v0) ⟨g, 1, none⟩ v1) ⟨g, 2, none⟩ v2) ⟨g, 3, none⟩ v3) ⟨g, 4, none⟩ v4) ⟨g, 5, none⟩ v5) ⟨g, 6, none⟩ v6) ⟨g, 7, none⟩ v7) ⟨g, 8, none⟩ v8) ⟨g, 9, none⟩ v9) ⟨g, 10, none⟩ v10) ⟨g, 11, none⟩ v11)).heap[g]? = some (.cells #[v0, v1, v2, v3, v4, v5, v6, v7, v8, v9, v10, v11] t (0, 0)) := by
  have h1 : (World.setCell W ⟨g, 0, none⟩ v0).heap[g]? = some (.cells #[v0, z1, z2, z3, z4, z5, z6, z7, z8, z9, z10, z11] t (0, 0)) := blk_set h v0
  generalize World.setCell W ⟨g, 0, none⟩ v0 = W1 at h1 ⊢
  have h2 : (World.setCell W1 ⟨g, 1, none⟩ v1).heap[g]? = some (.cells #[v0, v1, z2, z3, z4, z5, z6, z7, z8, z9, z10, z11] t (0, 0)) := blk_set h1 v1
  generalize World.setCell W1 ⟨g, 1, none⟩ v1 = W2 at h2 ⊢
  have h3 : (World.setCell W2 ⟨g, 2, none⟩ v2).heap[g]? = some (.cells #[v0, v1, v2, z3, z4, z5, z6, z7, z8, z9, z10, z11] t (0, 0)) := blk_set h2 v2
  generalize World.setCell W2 ⟨g, 2, none⟩ v2 = W3 at h3 ⊢
  have h4 : (World.setCell W3 ⟨g, 3, none⟩ v3).heap[g]? = some (.cells #[v0, v1, v2, v3, z4, z5, z6, z7, z8, z9, z10, z11] t (0, 0)) := blk_set h3 v3
  generalize World.setCell W3 ⟨g, 3, none⟩ v3 = W4 at h4 ⊢
  have h5 : (World.setCell W4 ⟨g, 4, none⟩ v4).heap[g]? = some (.cells #[v0, v1, v2, v3, v4, z5, z6, z7, z8, z9, z10, z11] t (0, 0)) := blk_set h4 v4
  generalize World.setCell W4 ⟨g, 4, none⟩ v4 = W5 at h5 ⊢
  have h6 : (World.setCell W5 ⟨g, 5, none⟩ v5).heap[g]? = some (.cells #[v0, v1, v2, v3, v4, v5, z6, z7, z8, z9, z10, z11] t (0, 0)) := blk_set h5 v5
  generalize World.setCell W5 ⟨g, 5, none⟩ v5 = W6 at h6 ⊢
  have h7 : (World.setCell W6 ⟨g, 6, none⟩ v6).heap[g]? = some (.cells #[v0, v1, v2, v3, v4, v5, v6, z7, z8, z9, z10, z11] t (0, 0)) := blk_set h6 v6
  generalize World.setCell W6 ⟨g, 6, none⟩ v6 = W7 at h7 ⊢
  have h8 : (World.setCell W7 ⟨g, 7, none⟩ v7).heap[g]? = some (.cells #[v0, v1, v2, v3, v4, v5, v6, v7, z8, z9, z10, z11] t (0, 0)) := blk_set h7 v7
  generalize World.setCell W7 ⟨g, 7, none⟩ v7 = W8 at h8 ⊢
  have h9 : (World.setCell W8 ⟨g, 8, none⟩ v8).heap[g]? = some (.cells #[v0, v1, v2, v3, v4, v5, v6, v7, v8, z9, z10, z11] t (0, 0)) := blk_set h8 v8
  generalize World.setCell W8 ⟨g, 8, none⟩ v8 = W9 at h9 ⊢
  have h10 : (World.setCell W9 ⟨g, 9, none⟩ v9).heap[g]? = some (.cells #[v0, v1, v2, v3, v4, v5, v6, v7, v8, v9, z10, z11] t (0, 0)) := blk_set h9 v9
  generalize World.setCell W9 ⟨g, 9, none⟩ v9 = W10 at h10 ⊢
  have h11 : (World.setCell W10 ⟨g, 10, none⟩ v10).heap[g]? = some (.cells #[v0, v1, v2, v3, v4, v5, v6, v7, v8, v9, v10, z11] t (0, 0)) := blk_set h10 v10
  generalize World.setCell W10 ⟨g, 10, none⟩ v10 = W11 at h11 ⊢
  have h12 : (World.setCell W11 ⟨g, 11, none⟩ v11).heap[g]? = some (.cells #[v0, v1, v2, v3, v4, v5, v6, v7, v8, v9, v10, v11] t (0, 0)) := blk_set h11 v11
  exact h12
theorem same12 {w W : World} {g : Nat} (k : Same w W) (hg : w.heap.size ≤ g) (v0 v1 v2 v3 v4 v5 v6 v7 v8 v9 v10 v11 : Value) : Same w (World.setCell (World.setCell (World.setCell (World.setCell (World.setCell (World.setCell (World.setCell (World.setCell (World.setCell (World.setCell (World.setCell (World.setCell W ⟨g, 0, none⟩ v0) ⟨g, 1, none⟩ v1) ⟨g, 2, none⟩ v2) ⟨g, 3, none⟩ v3) ⟨g, 4, none⟩ v4) ⟨g, 5, none⟩ v5) ⟨g, 6, none⟩ v6) ⟨g, 7, none⟩ v7) ⟨g, 8, none⟩ v8) ⟨g, 9, none⟩ v9) ⟨g, 10, none⟩ v10) ⟨g, 11, none⟩ v11) := (Same.put (Same.put (Same.put (Same.put (Same.put (Same.put (Same.put (Same.put (Same.put (Same.put (Same.put (Same.put k hg) hg) hg) hg) hg) hg) hg) hg) hg) hg) hg) hg)
set_option maxHeartbeats 4000000 in
set_option maxRecDepth 100000 in
theorem superOf_any (s : ByteArray) (w : World) (hs : s.size ≤ 281474976710656) :
    Calls Tryd.prog 69 #[.string s] w fun e w' => e = .returned (.tuple #[.agg #[.int .u64 (fld s 0 8 : Nat), .int .i64 (fld s 8 4 : Nat), .int .i64 (fld s 12 4 : Nat), .int .i64 (fld s 16 4 : Nat), .int .i64 (fld s 20 4 : Nat), .int .i64 (fld s 24 4 : Nat), .int .i64 (fld s 28 4 : Nat), .int .i64 (fld s 32 4 : Nat), .int .i64 (fld s 36 4 : Nat), .int .u64 (fld s 40 8 : Nat), .int .i64 (fld s 48 2 : Nat), .bool ((fld s 50 1 : Int) == 1)], .int .i64 (rdone (rst s 51))]) ∧ Same w w' := by
  have g0 := fun (g : Nat) (w : World) (h : Rd g (rst s 0) w) => rdU64 h
  have g1 := fun (g : Nat) (w : World) (h : Rd g (rst s 8) w) => rdU32 h
  have g2 := fun (g : Nat) (w : World) (h : Rd g (rst s 12) w) => rdU32 h
  have g3 := fun (g : Nat) (w : World) (h : Rd g (rst s 16) w) => rdU32 h
  have g4 := fun (g : Nat) (w : World) (h : Rd g (rst s 20) w) => rdU32 h
  have g5 := fun (g : Nat) (w : World) (h : Rd g (rst s 24) w) => rdU32 h
  have g6 := fun (g : Nat) (w : World) (h : Rd g (rst s 28) w) => rdU32 h
  have g7 := fun (g : Nat) (w : World) (h : Rd g (rst s 32) w) => rdU32 h
  have g8 := fun (g : Nat) (w : World) (h : Rd g (rst s 36) w) => rdU32 h
  have g9 := fun (g : Nat) (w : World) (h : Rd g (rst s 40) w) => rdU64 h
  have g10 := fun (g : Nat) (w : World) (h : Rd g (rst s 48) w) => rdU16 h
  have g11 := fun (g : Nat) (w : World) (h : Rd g (rst s 50) w) => rdU8 h
  have b0 := fld_lt s 0 8
  generalize fld s 0 8 = F0 at *
  have b1 := fld_lt s 8 4
  generalize fld s 8 4 = F1 at *
  have b2 := fld_lt s 12 4
  generalize fld s 12 4 = F2 at *
  have b3 := fld_lt s 16 4
  generalize fld s 16 4 = F3 at *
  have b4 := fld_lt s 20 4
  generalize fld s 20 4 = F4 at *
  have b5 := fld_lt s 24 4
  generalize fld s 24 4 = F5 at *
  have b6 := fld_lt s 28 4
  generalize fld s 28 4 = F6 at *
  have b7 := fld_lt s 32 4
  generalize fld s 32 4 = F7 at *
  have b8 := fld_lt s 36 4
  generalize fld s 36 4 = F8 at *
  have b9 := fld_lt s 40 8
  generalize fld s 40 8 = F9 at *
  have b10 := fld_lt s 48 2
  generalize fld s 48 2 = F10 at *
  have b11 := fld_lt s 50 1
  generalize fld s 50 1 = F11 at *
  have G0 := hidden g0
  have G1 := hidden g1
  have G2 := hidden g2
  have G3 := hidden g3
  have G4 := hidden g4
  have G5 := hidden g5
  have G6 := hidden g6
  have G7 := hidden g7
  have G8 := hidden g8
  have G9 := hidden g9
  have G10 := hidden g10
  have G11 := hidden g11
  clear g0 g1 g2 g3 g4 g5 g6 g7 g8 g9 g10 g11
  have v1 : IntKind.i64.wrap (F1 : Int) = (F1 : Int) := by rw [IntKind.wrap_i64]; omega
  have v2 : IntKind.i64.wrap (F2 : Int) = (F2 : Int) := by rw [IntKind.wrap_i64]; omega
  have v3 : IntKind.i64.wrap (F3 : Int) = (F3 : Int) := by rw [IntKind.wrap_i64]; omega
  have v4 : IntKind.i64.wrap (F4 : Int) = (F4 : Int) := by rw [IntKind.wrap_i64]; omega
  have v5 : IntKind.i64.wrap (F5 : Int) = (F5 : Int) := by rw [IntKind.wrap_i64]; omega
  have v6 : IntKind.i64.wrap (F6 : Int) = (F6 : Int) := by rw [IntKind.wrap_i64]; omega
  have v7 : IntKind.i64.wrap (F7 : Int) = (F7 : Int) := by rw [IntKind.wrap_i64]; omega
  have v8 : IntKind.i64.wrap (F8 : Int) = (F8 : Int) := by rw [IntKind.wrap_i64]; omega
  have v10 : IntKind.i64.wrap (F10 : Int) = (F10 : Int) := by rw [IntKind.wrap_i64]; omega
  clear b0 b1 b2 b3 b4 b5 b6 b7 b8 b9 b10 b11
  have gD := fun (g : Nat) (w : World) (h : Rd g (rst s 51) w) => rDone h
  have HD := hidden gD
  clear gD
  generalize rdone (rst s 51) = D at *
  have hr0 := rst_zero s
  have HR0 := hidden hr0
  clear hr0
  go_enter Tryd.func69, Tryd.ntmps69
  go_wp2_with (first
    | (go_at_call 13; refine (newR _ _ hs).mono ?_; rintro e w0 ⟨rfl, s0, k0, z0⟩; clear z0; rw [size_alloc, size_alloc, ← HR0.out] at s0; have x0 : w0.heap[w.heap.size + 1]? = some (.cells #[.int .u64 0, .int .i64 0, .int .i64 0, .int .i64 0, .int .i64 0, .int .i64 0, .int .i64 0, .int .i64 0, .int .i64 0, .int .u64 0, .int .i64 0, .bool false] 89 (0, 0)) := res_cells k0; have K0 : Same w w0 := Kept.trans (Kept.alloc (same_alloc _ _) _) k0; have r0 : w0.heap[w.heap.size]? = some (.cells #[.int .u64 0, .int .i64 0, .int .i64 0, .int .i64 0, .int .i64 0, .int .i64 0, .int .i64 0, .int .i64 0, .int .i64 0, .int .u64 0, .int .i64 0, .bool false] 89 (0, 0)) := box_block2 k0; clear k0)
    | (go_at_call 17; refine (G0.out _ _ s0).mono ?_; rintro e w1 ⟨rfl, s1, q1⟩; have x1 : w1.heap[w.heap.size + 1]? = some (.cells #[.int .u64 0, .int .i64 0, .int .i64 0, .int .i64 0, .int .i64 0, .int .i64 0, .int .i64 0, .int .i64 0, .int .i64 0, .int .u64 0, .int .i64 0, .bool false] 89 (0, 0)) := blk_kept q1 (fun h => absurd (show _ = _ from h) (by omega)) x0; have r1 : w1.heap[w.heap.size]? = some (.cells #[.int .u64 0, .int .i64 0, .int .i64 0, .int .i64 0, .int .i64 0, .int .i64 0, .int .i64 0, .int .i64 0, .int .i64 0, .int .u64 0, .int .i64 0, .bool false] 89 (0, 0)) := blk_kept q1 (fun h => absurd (show _ = _ from h) (by omega)) r0; have K1 : Same w w1 := Same.rd K0 q1 (by omega); have c1 : w1.cell? ⟨w.heap.size + 1, 0, none⟩ = some (.int .u64 0) := blk_cell x1; have f1 : w1.frozen? ⟨w.heap.size + 1, 0, none⟩ = false := blk_free x1; clear q1 s0 x0 r0 K0)
    | (go_at_call 16; refine (G1.out _ _ (s1.put (by omega))).mono ?_; rintro e w2 ⟨rfl, s2, q2⟩; have x2 : w2.heap[w.heap.size + 1]? = some (.cells #[.int .u64 (F0 : Nat), .int .i64 0, .int .i64 0, .int .i64 0, .int .i64 0, .int .i64 0, .int .i64 0, .int .i64 0, .int .i64 0, .int .u64 0, .int .i64 0, .bool false] 89 (0, 0)) := blk_kept q2 (fun h => absurd (show _ = _ from h) (by omega)) (blk_set x1 _); have r2 : w2.heap[w.heap.size]? = some (.cells #[.int .u64 0, .int .i64 0, .int .i64 0, .int .i64 0, .int .i64 0, .int .i64 0, .int .i64 0, .int .i64 0, .int .i64 0, .int .u64 0, .int .i64 0, .bool false] 89 (0, 0)) := blk_kept q2 (fun h => absurd (show _ = _ from h) (by omega)) (blk_off r1 (by omega)); have K2 : Same w w2 := Same.rd (Same.put K1 (by omega)) q2 (by omega); have c2 : w2.cell? ⟨w.heap.size + 1, 1, none⟩ = some (.int .i64 0) := blk_cell x2; have f2 : w2.frozen? ⟨w.heap.size + 1, 1, none⟩ = false := blk_free x2; clear q2 s1 x1 r1 K1 c1 f1)
    | (go_at_call 16; refine (G2.out _ _ (s2.put (by omega))).mono ?_; rintro e w3 ⟨rfl, s3, q3⟩; have x3 : w3.heap[w.heap.size + 1]? = some (.cells #[.int .u64 (F0 : Nat), .int .i64 (F1 : Nat), .int .i64 0, .int .i64 0, .int .i64 0, .int .i64 0, .int .i64 0, .int .i64 0, .int .i64 0, .int .u64 0, .int .i64 0, .bool false] 89 (0, 0)) := blk_kept q3 (fun h => absurd (show _ = _ from h) (by omega)) (blk_set x2 _); have r3 : w3.heap[w.heap.size]? = some (.cells #[.int .u64 0, .int .i64 0, .int .i64 0, .int .i64 0, .int .i64 0, .int .i64 0, .int .i64 0, .int .i64 0, .int .i64 0, .int .u64 0, .int .i64 0, .bool false] 89 (0, 0)) := blk_kept q3 (fun h => absurd (show _ = _ from h) (by omega)) (blk_off r2 (by omega)); have K3 : Same w w3 := Same.rd (Same.put K2 (by omega)) q3 (by omega); have c3 : w3.cell? ⟨w.heap.size + 1, 2, none⟩ = some (.int .i64 0) := blk_cell x3; have f3 : w3.frozen? ⟨w.heap.size + 1, 2, none⟩ = false := blk_free x3; clear q3 s2 x2 r2 K2 c2 f2)
    | (go_at_call 16; refine (G3.out _ _ (s3.put (by omega))).mono ?_; rintro e w4 ⟨rfl, s4, q4⟩; have x4 : w4.heap[w.heap.size + 1]? = some (.cells #[.int .u64 (F0 : Nat), .int .i64 (F1 : Nat), .int .i64 (F2 : Nat), .int .i64 0, .int .i64 0, .int .i64 0, .int .i64 0, .int .i64 0, .int .i64 0, .int .u64 0, .int .i64 0, .bool false] 89 (0, 0)) := blk_kept q4 (fun h => absurd (show _ = _ from h) (by omega)) (blk_set x3 _); have r4 : w4.heap[w.heap.size]? = some (.cells #[.int .u64 0, .int .i64 0, .int .i64 0, .int .i64 0, .int .i64 0, .int .i64 0, .int .i64 0, .int .i64 0, .int .i64 0, .int .u64 0, .int .i64 0, .bool false] 89 (0, 0)) := blk_kept q4 (fun h => absurd (show _ = _ from h) (by omega)) (blk_off r3 (by omega)); have K4 : Same w w4 := Same.rd (Same.put K3 (by omega)) q4 (by omega); have c4 : w4.cell? ⟨w.heap.size + 1, 3, none⟩ = some (.int .i64 0) := blk_cell x4; have f4 : w4.frozen? ⟨w.heap.size + 1, 3, none⟩ = false := blk_free x4; clear q4 s3 x3 r3 K3 c3 f3)
    | (go_at_call 16; refine (G4.out _ _ (s4.put (by omega))).mono ?_; rintro e w5 ⟨rfl, s5, q5⟩; have x5 : w5.heap[w.heap.size + 1]? = some (.cells #[.int .u64 (F0 : Nat), .int .i64 (F1 : Nat), .int .i64 (F2 : Nat), .int .i64 (F3 : Nat), .int .i64 0, .int .i64 0, .int .i64 0, .int .i64 0, .int .i64 0, .int .u64 0, .int .i64 0, .bool false] 89 (0, 0)) := blk_kept q5 (fun h => absurd (show _ = _ from h) (by omega)) (blk_set x4 _); have r5 : w5.heap[w.heap.size]? = some (.cells #[.int .u64 0, .int .i64 0, .int .i64 0, .int .i64 0, .int .i64 0, .int .i64 0, .int .i64 0, .int .i64 0, .int .i64 0, .int .u64 0, .int .i64 0, .bool false] 89 (0, 0)) := blk_kept q5 (fun h => absurd (show _ = _ from h) (by omega)) (blk_off r4 (by omega)); have K5 : Same w w5 := Same.rd (Same.put K4 (by omega)) q5 (by omega); have c5 : w5.cell? ⟨w.heap.size + 1, 4, none⟩ = some (.int .i64 0) := blk_cell x5; have f5 : w5.frozen? ⟨w.heap.size + 1, 4, none⟩ = false := blk_free x5; clear q5 s4 x4 r4 K4 c4 f4)
    | (go_at_call 16; refine (G5.out _ _ (s5.put (by omega))).mono ?_; rintro e w6 ⟨rfl, s6, q6⟩; have x6 : w6.heap[w.heap.size + 1]? = some (.cells #[.int .u64 (F0 : Nat), .int .i64 (F1 : Nat), .int .i64 (F2 : Nat), .int .i64 (F3 : Nat), .int .i64 (F4 : Nat), .int .i64 0, .int .i64 0, .int .i64 0, .int .i64 0, .int .u64 0, .int .i64 0, .bool false] 89 (0, 0)) := blk_kept q6 (fun h => absurd (show _ = _ from h) (by omega)) (blk_set x5 _); have r6 : w6.heap[w.heap.size]? = some (.cells #[.int .u64 0, .int .i64 0, .int .i64 0, .int .i64 0, .int .i64 0, .int .i64 0, .int .i64 0, .int .i64 0, .int .i64 0, .int .u64 0, .int .i64 0, .bool false] 89 (0, 0)) := blk_kept q6 (fun h => absurd (show _ = _ from h) (by omega)) (blk_off r5 (by omega)); have K6 : Same w w6 := Same.rd (Same.put K5 (by omega)) q6 (by omega); have c6 : w6.cell? ⟨w.heap.size + 1, 5, none⟩ = some (.int .i64 0) := blk_cell x6; have f6 : w6.frozen? ⟨w.heap.size + 1, 5, none⟩ = false := blk_free x6; clear q6 s5 x5 r5 K5 c5 f5)
    | (go_at_call 16; refine (G6.out _ _ (s6.put (by omega))).mono ?_; rintro e w7 ⟨rfl, s7, q7⟩; have x7 : w7.heap[w.heap.size + 1]? = some (.cells #[.int .u64 (F0 : Nat), .int .i64 (F1 : Nat), .int .i64 (F2 : Nat), .int .i64 (F3 : Nat), .int .i64 (F4 : Nat), .int .i64 (F5 : Nat), .int .i64 0, .int .i64 0, .int .i64 0, .int .u64 0, .int .i64 0, .bool false] 89 (0, 0)) := blk_kept q7 (fun h => absurd (show _ = _ from h) (by omega)) (blk_set x6 _); have r7 : w7.heap[w.heap.size]? = some (.cells #[.int .u64 0, .int .i64 0, .int .i64 0, .int .i64 0, .int .i64 0, .int .i64 0, .int .i64 0, .int .i64 0, .int .i64 0, .int .u64 0, .int .i64 0, .bool false] 89 (0, 0)) := blk_kept q7 (fun h => absurd (show _ = _ from h) (by omega)) (blk_off r6 (by omega)); have K7 : Same w w7 := Same.rd (Same.put K6 (by omega)) q7 (by omega); have c7 : w7.cell? ⟨w.heap.size + 1, 6, none⟩ = some (.int .i64 0) := blk_cell x7; have f7 : w7.frozen? ⟨w.heap.size + 1, 6, none⟩ = false := blk_free x7; clear q7 s6 x6 r6 K6 c6 f6)
    | (go_at_call 16; refine (G7.out _ _ (s7.put (by omega))).mono ?_; rintro e w8 ⟨rfl, s8, q8⟩; have x8 : w8.heap[w.heap.size + 1]? = some (.cells #[.int .u64 (F0 : Nat), .int .i64 (F1 : Nat), .int .i64 (F2 : Nat), .int .i64 (F3 : Nat), .int .i64 (F4 : Nat), .int .i64 (F5 : Nat), .int .i64 (F6 : Nat), .int .i64 0, .int .i64 0, .int .u64 0, .int .i64 0, .bool false] 89 (0, 0)) := blk_kept q8 (fun h => absurd (show _ = _ from h) (by omega)) (blk_set x7 _); have r8 : w8.heap[w.heap.size]? = some (.cells #[.int .u64 0, .int .i64 0, .int .i64 0, .int .i64 0, .int .i64 0, .int .i64 0, .int .i64 0, .int .i64 0, .int .i64 0, .int .u64 0, .int .i64 0, .bool false] 89 (0, 0)) := blk_kept q8 (fun h => absurd (show _ = _ from h) (by omega)) (blk_off r7 (by omega)); have K8 : Same w w8 := Same.rd (Same.put K7 (by omega)) q8 (by omega); have c8 : w8.cell? ⟨w.heap.size + 1, 7, none⟩ = some (.int .i64 0) := blk_cell x8; have f8 : w8.frozen? ⟨w.heap.size + 1, 7, none⟩ = false := blk_free x8; clear q8 s7 x7 r7 K7 c7 f7)
    | (go_at_call 16; refine (G8.out _ _ (s8.put (by omega))).mono ?_; rintro e w9 ⟨rfl, s9, q9⟩; have x9 : w9.heap[w.heap.size + 1]? = some (.cells #[.int .u64 (F0 : Nat), .int .i64 (F1 : Nat), .int .i64 (F2 : Nat), .int .i64 (F3 : Nat), .int .i64 (F4 : Nat), .int .i64 (F5 : Nat), .int .i64 (F6 : Nat), .int .i64 (F7 : Nat), .int .i64 0, .int .u64 0, .int .i64 0, .bool false] 89 (0, 0)) := blk_kept q9 (fun h => absurd (show _ = _ from h) (by omega)) (blk_set x8 _); have r9 : w9.heap[w.heap.size]? = some (.cells #[.int .u64 0, .int .i64 0, .int .i64 0, .int .i64 0, .int .i64 0, .int .i64 0, .int .i64 0, .int .i64 0, .int .i64 0, .int .u64 0, .int .i64 0, .bool false] 89 (0, 0)) := blk_kept q9 (fun h => absurd (show _ = _ from h) (by omega)) (blk_off r8 (by omega)); have K9 : Same w w9 := Same.rd (Same.put K8 (by omega)) q9 (by omega); have c9 : w9.cell? ⟨w.heap.size + 1, 8, none⟩ = some (.int .i64 0) := blk_cell x9; have f9 : w9.frozen? ⟨w.heap.size + 1, 8, none⟩ = false := blk_free x9; clear q9 s8 x8 r8 K8 c8 f8)
    | (go_at_call 17; refine (G9.out _ _ (s9.put (by omega))).mono ?_; rintro e w10 ⟨rfl, s10, q10⟩; have x10 : w10.heap[w.heap.size + 1]? = some (.cells #[.int .u64 (F0 : Nat), .int .i64 (F1 : Nat), .int .i64 (F2 : Nat), .int .i64 (F3 : Nat), .int .i64 (F4 : Nat), .int .i64 (F5 : Nat), .int .i64 (F6 : Nat), .int .i64 (F7 : Nat), .int .i64 (F8 : Nat), .int .u64 0, .int .i64 0, .bool false] 89 (0, 0)) := blk_kept q10 (fun h => absurd (show _ = _ from h) (by omega)) (blk_set x9 _); have r10 : w10.heap[w.heap.size]? = some (.cells #[.int .u64 0, .int .i64 0, .int .i64 0, .int .i64 0, .int .i64 0, .int .i64 0, .int .i64 0, .int .i64 0, .int .i64 0, .int .u64 0, .int .i64 0, .bool false] 89 (0, 0)) := blk_kept q10 (fun h => absurd (show _ = _ from h) (by omega)) (blk_off r9 (by omega)); have K10 : Same w w10 := Same.rd (Same.put K9 (by omega)) q10 (by omega); have c10 : w10.cell? ⟨w.heap.size + 1, 9, none⟩ = some (.int .u64 0) := blk_cell x10; have f10 : w10.frozen? ⟨w.heap.size + 1, 9, none⟩ = false := blk_free x10; clear q10 s9 x9 r9 K9 c9 f9)
    | (go_at_call 15; refine (G10.out _ _ (s10.put (by omega))).mono ?_; rintro e w11 ⟨rfl, s11, q11⟩; have x11 : w11.heap[w.heap.size + 1]? = some (.cells #[.int .u64 (F0 : Nat), .int .i64 (F1 : Nat), .int .i64 (F2 : Nat), .int .i64 (F3 : Nat), .int .i64 (F4 : Nat), .int .i64 (F5 : Nat), .int .i64 (F6 : Nat), .int .i64 (F7 : Nat), .int .i64 (F8 : Nat), .int .u64 (F9 : Nat), .int .i64 0, .bool false] 89 (0, 0)) := blk_kept q11 (fun h => absurd (show _ = _ from h) (by omega)) (blk_set x10 _); have r11 : w11.heap[w.heap.size]? = some (.cells #[.int .u64 0, .int .i64 0, .int .i64 0, .int .i64 0, .int .i64 0, .int .i64 0, .int .i64 0, .int .i64 0, .int .i64 0, .int .u64 0, .int .i64 0, .bool false] 89 (0, 0)) := blk_kept q11 (fun h => absurd (show _ = _ from h) (by omega)) (blk_off r10 (by omega)); have K11 : Same w w11 := Same.rd (Same.put K10 (by omega)) q11 (by omega); have c11 : w11.cell? ⟨w.heap.size + 1, 10, none⟩ = some (.int .i64 0) := blk_cell x11; have f11 : w11.frozen? ⟨w.heap.size + 1, 10, none⟩ = false := blk_free x11; clear q11 s10 x10 r10 K10 c10 f10)
    | (go_at_call 14; refine (G11.out _ _ (s11.put (by omega))).mono ?_; rintro e w12 ⟨rfl, s12, q12⟩; have x12 : w12.heap[w.heap.size + 1]? = some (.cells #[.int .u64 (F0 : Nat), .int .i64 (F1 : Nat), .int .i64 (F2 : Nat), .int .i64 (F3 : Nat), .int .i64 (F4 : Nat), .int .i64 (F5 : Nat), .int .i64 (F6 : Nat), .int .i64 (F7 : Nat), .int .i64 (F8 : Nat), .int .u64 (F9 : Nat), .int .i64 (F10 : Nat), .bool false] 89 (0, 0)) := blk_kept q12 (fun h => absurd (show _ = _ from h) (by omega)) (blk_set x11 _); have r12 : w12.heap[w.heap.size]? = some (.cells #[.int .u64 0, .int .i64 0, .int .i64 0, .int .i64 0, .int .i64 0, .int .i64 0, .int .i64 0, .int .i64 0, .int .i64 0, .int .u64 0, .int .i64 0, .bool false] 89 (0, 0)) := blk_kept q12 (fun h => absurd (show _ = _ from h) (by omega)) (blk_off r11 (by omega)); have K12 : Same w w12 := Same.rd (Same.put K11 (by omega)) q12 (by omega); have c12 : w12.cell? ⟨w.heap.size + 1, 11, none⟩ = some (.bool false) := blk_cell x12; have f12 : w12.frozen? ⟨w.heap.size + 1, 11, none⟩ = false := blk_free x12; clear q12 s11 x11 r11 K11 c11 f11))
  have x13 : (w12.setCell ⟨w.heap.size + 1, 11, none⟩ (.bool ((F11 : Int) == 1))).heap[w.heap.size + 1]? = some (.cells #[.int .u64 (F0 : Nat), .int .i64 (F1 : Nat), .int .i64 (F2 : Nat), .int .i64 (F3 : Nat), .int .i64 (F4 : Nat), .int .i64 (F5 : Nat), .int .i64 (F6 : Nat), .int .i64 (F7 : Nat), .int .i64 (F8 : Nat), .int .u64 (F9 : Nat), .int .i64 (F10 : Nat), .bool ((F11 : Int) == 1)] 89 (0, 0)) := blk_set x12 _
  have r13 : (w12.setCell ⟨w.heap.size + 1, 11, none⟩ (.bool ((F11 : Int) == 1))).heap[w.heap.size]? = some (.cells #[.int .u64 0, .int .i64 0, .int .i64 0, .int .i64 0, .int .i64 0, .int .i64 0, .int .i64 0, .int .i64 0, .int .i64 0, .int .u64 0, .int .i64 0, .bool false] 89 (0, 0)) := blk_off r12 (by omega)
  have s13 : Rd (w.heap.size + 1 + 1) (rst s 51) (w12.setCell ⟨w.heap.size + 1, 11, none⟩ (.bool ((F11 : Int) == 1))) := s12.put (by omega)
  have K13 : Same w (w12.setCell ⟨w.heap.size + 1, 11, none⟩ (.bool ((F11 : Int) == 1))) := Same.put K12 (by omega)
  generalize w12.setCell ⟨w.heap.size + 1, 11, none⟩ (.bool ((F11 : Int) == 1)) = W at x13 r13 s13 K13 ⊢
  clear x12 r12 s12 K12 c12 f12
  have a0 : W.cell? ⟨w.heap.size + 1, 0, none⟩ = some (.int .u64 (F0 : Nat)) := blk_cell x13
  have z0 : W.cell? ⟨w.heap.size, 0, none⟩ = some (.int .u64 0) := blk_cell r13
  have y0 : W.frozen? ⟨w.heap.size, 0, none⟩ = false := blk_free r13
  have a1 : W.cell? ⟨w.heap.size + 1, 1, none⟩ = some (.int .i64 (F1 : Nat)) := blk_cell x13
  have z1 : W.cell? ⟨w.heap.size, 1, none⟩ = some (.int .i64 0) := blk_cell r13
  have y1 : W.frozen? ⟨w.heap.size, 1, none⟩ = false := blk_free r13
  have a2 : W.cell? ⟨w.heap.size + 1, 2, none⟩ = some (.int .i64 (F2 : Nat)) := blk_cell x13
  have z2 : W.cell? ⟨w.heap.size, 2, none⟩ = some (.int .i64 0) := blk_cell r13
  have y2 : W.frozen? ⟨w.heap.size, 2, none⟩ = false := blk_free r13
  have a3 : W.cell? ⟨w.heap.size + 1, 3, none⟩ = some (.int .i64 (F3 : Nat)) := blk_cell x13
  have z3 : W.cell? ⟨w.heap.size, 3, none⟩ = some (.int .i64 0) := blk_cell r13
  have y3 : W.frozen? ⟨w.heap.size, 3, none⟩ = false := blk_free r13
  have a4 : W.cell? ⟨w.heap.size + 1, 4, none⟩ = some (.int .i64 (F4 : Nat)) := blk_cell x13
  have z4 : W.cell? ⟨w.heap.size, 4, none⟩ = some (.int .i64 0) := blk_cell r13
  have y4 : W.frozen? ⟨w.heap.size, 4, none⟩ = false := blk_free r13
  have a5 : W.cell? ⟨w.heap.size + 1, 5, none⟩ = some (.int .i64 (F5 : Nat)) := blk_cell x13
  have z5 : W.cell? ⟨w.heap.size, 5, none⟩ = some (.int .i64 0) := blk_cell r13
  have y5 : W.frozen? ⟨w.heap.size, 5, none⟩ = false := blk_free r13
  have a6 : W.cell? ⟨w.heap.size + 1, 6, none⟩ = some (.int .i64 (F6 : Nat)) := blk_cell x13
  have z6 : W.cell? ⟨w.heap.size, 6, none⟩ = some (.int .i64 0) := blk_cell r13
  have y6 : W.frozen? ⟨w.heap.size, 6, none⟩ = false := blk_free r13
  have a7 : W.cell? ⟨w.heap.size + 1, 7, none⟩ = some (.int .i64 (F7 : Nat)) := blk_cell x13
  have z7 : W.cell? ⟨w.heap.size, 7, none⟩ = some (.int .i64 0) := blk_cell r13
  have y7 : W.frozen? ⟨w.heap.size, 7, none⟩ = false := blk_free r13
  have a8 : W.cell? ⟨w.heap.size + 1, 8, none⟩ = some (.int .i64 (F8 : Nat)) := blk_cell x13
  have z8 : W.cell? ⟨w.heap.size, 8, none⟩ = some (.int .i64 0) := blk_cell r13
  have y8 : W.frozen? ⟨w.heap.size, 8, none⟩ = false := blk_free r13
  have a9 : W.cell? ⟨w.heap.size + 1, 9, none⟩ = some (.int .u64 (F9 : Nat)) := blk_cell x13
  have z9 : W.cell? ⟨w.heap.size, 9, none⟩ = some (.int .u64 0) := blk_cell r13
  have y9 : W.frozen? ⟨w.heap.size, 9, none⟩ = false := blk_free r13
  have a10 : W.cell? ⟨w.heap.size + 1, 10, none⟩ = some (.int .i64 (F10 : Nat)) := blk_cell x13
  have z10 : W.cell? ⟨w.heap.size, 10, none⟩ = some (.int .i64 0) := blk_cell r13
  have y10 : W.frozen? ⟨w.heap.size, 10, none⟩ = false := blk_free r13
  have a11 : W.cell? ⟨w.heap.size + 1, 11, none⟩ = some (.bool ((F11 : Int) == 1)) := blk_cell x13
  have z11 : W.cell? ⟨w.heap.size, 11, none⟩ = some (.bool false) := blk_cell r13
  have y11 : W.frozen? ⟨w.heap.size, 11, none⟩ = false := blk_free r13
  go_region_with (go_at_call 22; (first | refine (HD.out _ W.drew (s13.same rfl)).mono ?_ | refine (HD.out _ W s13).mono ?_); rintro e wd ⟨rfl, rfl⟩)
  all_goals
    have xf := fill12 r13 (.int .u64 (F0 : Nat)) (.int .i64 (F1 : Nat)) (.int .i64 (F2 : Nat)) (.int .i64 (F3 : Nat)) (.int .i64 (F4 : Nat)) (.int .i64 (F5 : Nat)) (.int .i64 (F6 : Nat)) (.int .i64 (F7 : Nat)) (.int .i64 (F8 : Nat)) (.int .u64 (F9 : Nat)) (.int .i64 (F10 : Nat)) (.bool ((F11 : Int) == 1))
    have Kf := same12 K13 (Nat.le_refl _) (.int .u64 (F0 : Nat)) (.int .i64 (F1 : Nat)) (.int .i64 (F2 : Nat)) (.int .i64 (F3 : Nat)) (.int .i64 (F4 : Nat)) (.int .i64 (F5 : Nat)) (.int .i64 (F6 : Nat)) (.int .i64 (F7 : Nat)) (.int .i64 (F8 : Nat)) (.int .u64 (F9 : Nat)) (.int .i64 (F10 : Nat)) (.bool ((F11 : Int) == 1))
    generalize (World.setCell (World.setCell (World.setCell (World.setCell (World.setCell (World.setCell (World.setCell (World.setCell (World.setCell (World.setCell (World.setCell (World.setCell W ⟨w.heap.size, 0, none⟩ (.int .u64 (F0 : Nat))) ⟨w.heap.size, 1, none⟩ (.int .i64 (F1 : Nat))) ⟨w.heap.size, 2, none⟩ (.int .i64 (F2 : Nat))) ⟨w.heap.size, 3, none⟩ (.int .i64 (F3 : Nat))) ⟨w.heap.size, 4, none⟩ (.int .i64 (F4 : Nat))) ⟨w.heap.size, 5, none⟩ (.int .i64 (F5 : Nat))) ⟨w.heap.size, 6, none⟩ (.int .i64 (F6 : Nat))) ⟨w.heap.size, 7, none⟩ (.int .i64 (F7 : Nat))) ⟨w.heap.size, 8, none⟩ (.int .i64 (F8 : Nat))) ⟨w.heap.size, 9, none⟩ (.int .u64 (F9 : Nat))) ⟨w.heap.size, 10, none⟩ (.int .i64 (F10 : Nat))) ⟨w.heap.size, 11, none⟩ (.bool ((F11 : Int) == 1))) = V at xf Kf ⊢
    have u0 : V.cell? ⟨w.heap.size, 0, none⟩ = some (.int .u64 (F0 : Nat)) := blk_cell xf
    have u1 : V.cell? ⟨w.heap.size, 1, none⟩ = some (.int .i64 (F1 : Nat)) := blk_cell xf
    have u2 : V.cell? ⟨w.heap.size, 2, none⟩ = some (.int .i64 (F2 : Nat)) := blk_cell xf
    have u3 : V.cell? ⟨w.heap.size, 3, none⟩ = some (.int .i64 (F3 : Nat)) := blk_cell xf
    have u4 : V.cell? ⟨w.heap.size, 4, none⟩ = some (.int .i64 (F4 : Nat)) := blk_cell xf
    have u5 : V.cell? ⟨w.heap.size, 5, none⟩ = some (.int .i64 (F5 : Nat)) := blk_cell xf
    have u6 : V.cell? ⟨w.heap.size, 6, none⟩ = some (.int .i64 (F6 : Nat)) := blk_cell xf
    have u7 : V.cell? ⟨w.heap.size, 7, none⟩ = some (.int .i64 (F7 : Nat)) := blk_cell xf
    have u8 : V.cell? ⟨w.heap.size, 8, none⟩ = some (.int .i64 (F8 : Nat)) := blk_cell xf
    have u9 : V.cell? ⟨w.heap.size, 9, none⟩ = some (.int .u64 (F9 : Nat)) := blk_cell xf
    have u10 : V.cell? ⟨w.heap.size, 10, none⟩ = some (.int .i64 (F10 : Nat)) := blk_cell xf
    have u11 : V.cell? ⟨w.heap.size, 11, none⟩ = some (.bool ((F11 : Int) == 1)) := blk_cell xf
    go_wp2
    refine bodyPost_ret (v := .tuple #[.agg #[.int .u64 (F0 : Nat), .int .i64 (F1 : Nat), .int .i64 (F2 : Nat), .int .i64 (F3 : Nat), .int .i64 (F4 : Nat), .int .i64 (F5 : Nat), .int .i64 (F6 : Nat), .int .i64 (F7 : Nat), .int .i64 (F8 : Nat), .int .u64 (F9 : Nat), .int .i64 (F10 : Nat), .bool ((F11 : Int) == 1)], .int .i64 D]) (by simp [results, Tryd.results69, go_sem, u0, u1, u2, u3, u4, u5, u6, u7, u8, u9, u10, u11]) rfl ⟨rfl, ?_⟩
    exact Kept.drew Kf
end Go.Proofs.YtilkpboegpfijaaDoor
