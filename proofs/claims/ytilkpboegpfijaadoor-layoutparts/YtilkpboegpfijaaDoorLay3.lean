/- layout's bodyOf, walked: the body of a superblock's frame. -/
import Derived.Test.YtilkpboegpfijaaDoorLay2
import Derived.Test.YtilkpboegpfijaaDoorFrameP
namespace Go.Proofs.YtilkpboegpfijaaDoor
open Go.RowKit
set_option linter.unusedVariables false

def flagN (b : Bool) : Nat := if b then 1 else 0
/-- The body of a superblock's frame. -/
def bodyL (gen root sector sectors journal pack cmin cnorm cmax seed nbits : Nat) (dd : Bool) : List UInt8 :=
  be 8 gen ++ be 4 root ++ be 4 sector ++ be 4 sectors ++ be 4 journal ++ be 4 pack ++ be 4 cmin ++ be 4 cnorm ++ be 4 cmax ++ be 8 seed ++ be 2 nbits ++ be 1 (flagN dd)
theorem bodyL_len (gen root sector sectors journal pack cmin cnorm cmax seed nbits : Nat) (dd : Bool) : (bodyL gen root sector sectors journal pack cmin cnorm cmax seed nbits dd).length = 51 := by
  simp [bodyL, be_length]
theorem fitU16 {B g : Nat} {most : Int} {bs : List UInt8} {w : World} (h : WS B g most (bs, false) w) (n : Nat) (hn : n < 65536) (hf : (bs.length : Int) + 2 ≤ most) (hl : bs.length + 2 ≤ 140737488355328) :
    Calls Tryd.prog 34 #[.pointer (some ⟨g, 0, none⟩), .int .u16 n] w fun e w' => e = .returned (.tuple #[]) ∧ WS B g most (bs ++ be 2 n, false) w' ∧ Kept (wrS B g) w w' := by
  have k := wU16 h n hn hl
  rw [fit (by rw [be_length]; exact hf)] at k
  exact k
theorem flag_any (b : Bool) (w : World) : Calls Tryd.prog 71 #[.bool b] w fun e w' => e = .returned (.int .u8 (flagN b : Nat)) ∧ w = w' := by
  cases b
  all_goals
    go_enter Tryd.func71, Tryd.ntmps71
    go_wp2
    go_returns
    exact ⟨rfl, rfl⟩
theorem size2 (w : World) (a b : Obj) : ((w.alloc a).alloc b).heap.size ≤ w.heap.size + 1 + 1 := by simp
theorem flagN_lt (b : Bool) : flagN b < 256 := by cases b <;> decide
/-- One more field. -/
theorem more (L : List UInt8) (n k x : Nat) (h : L.length = n) : ∃ M, M = L ++ be k x ∧ M.length = n + k := ⟨_, rfl, by rw [List.length_append, be_length, h]⟩
theorem room_for {L : List UInt8} {n k : Nat} (h : L.length = n) (hk : n + k ≤ 51) : (L.length : Int) + k ≤ 51 ∧ L.length + k ≤ 140737488355328 := by rw [h]; omega
set_option maxHeartbeats 4000000 in
set_option maxRecDepth 100000 in
theorem bodyOf_any (gen root sector sectors journal pack cmin cnorm cmax seed nbits : Nat) (dd : Bool) (w : World)
    (h0 : gen < 18446744073709551616) (h1 : root < 4294967296) (h2 : sector < 4294967296) (h3 : sectors < 4294967296) (h4 : journal < 4294967296) (h5 : pack < 4294967296) (h6 : cmin < 4294967296) (h7 : cnorm < 4294967296) (h8 : cmax < 4294967296) (h9 : seed < 18446744073709551616) (h10 : nbits < 65536) :
    Calls Tryd.prog 68 #[.agg #[.int .u64 gen, .int .i64 root, .int .i64 sector, .int .i64 sectors, .int .i64 journal, .int .i64 pack, .int .i64 cmin, .int .i64 cnorm, .int .i64 cmax, .int .u64 seed, .int .i64 nbits, .bool dd]] w fun e w' => e = .returned (.string ⟨(bodyL gen root sector sectors journal pack cmin cnorm cmax seed nbits dd).toArray⟩) ∧ Same w w' := by
  obtain ⟨L1, e1, n1⟩ := more [] 0 8 gen rfl
  obtain ⟨L2, e2, n2⟩ := more L1 8 4 root n1
  obtain ⟨L3, e3, n3⟩ := more L2 12 4 sector n2
  obtain ⟨L4, e4, n4⟩ := more L3 16 4 sectors n3
  obtain ⟨L5, e5, n5⟩ := more L4 20 4 journal n4
  obtain ⟨L6, e6, n6⟩ := more L5 24 4 pack n5
  obtain ⟨L7, e7, n7⟩ := more L6 28 4 cmin n6
  obtain ⟨L8, e8, n8⟩ := more L7 32 4 cnorm n7
  obtain ⟨L9, e9, n9⟩ := more L8 36 4 cmax n8
  obtain ⟨L10, e10, n10⟩ := more L9 40 8 seed n9
  obtain ⟨L11, e11, n11⟩ := more L10 48 2 nbits n10
  obtain ⟨L12, e12, n12⟩ := more L11 50 1 (flagN dd) n11
  have g1 : ∀ B g w, WS B g 51 ([], false) w → _ := fun B g w h => fitU64 h gen h0 (by decide) (by decide)
  have g2 : ∀ B g w, WS B g 51 (L1, false) w → _ := fun B g w h => fitU32 h root h1 (room_for n1 (by decide)).1 (room_for n1 (by decide)).2
  have g3 : ∀ B g w, WS B g 51 (L2, false) w → _ := fun B g w h => fitU32 h sector h2 (room_for n2 (by decide)).1 (room_for n2 (by decide)).2
  have g4 : ∀ B g w, WS B g 51 (L3, false) w → _ := fun B g w h => fitU32 h sectors h3 (room_for n3 (by decide)).1 (room_for n3 (by decide)).2
  have g5 : ∀ B g w, WS B g 51 (L4, false) w → _ := fun B g w h => fitU32 h journal h4 (room_for n4 (by decide)).1 (room_for n4 (by decide)).2
  have g6 : ∀ B g w, WS B g 51 (L5, false) w → _ := fun B g w h => fitU32 h pack h5 (room_for n5 (by decide)).1 (room_for n5 (by decide)).2
  have g7 : ∀ B g w, WS B g 51 (L6, false) w → _ := fun B g w h => fitU32 h cmin h6 (room_for n6 (by decide)).1 (room_for n6 (by decide)).2
  have g8 : ∀ B g w, WS B g 51 (L7, false) w → _ := fun B g w h => fitU32 h cnorm h7 (room_for n7 (by decide)).1 (room_for n7 (by decide)).2
  have g9 : ∀ B g w, WS B g 51 (L8, false) w → _ := fun B g w h => fitU32 h cmax h8 (room_for n8 (by decide)).1 (room_for n8 (by decide)).2
  have g10 : ∀ B g w, WS B g 51 (L9, false) w → _ := fun B g w h => fitU64 h seed h9 (room_for n9 (by decide)).1 (room_for n9 (by decide)).2
  have g11 : ∀ B g w, WS B g 51 (L10, false) w → _ := fun B g w h => fitU16 h nbits h10 (room_for n10 (by decide)).1 (room_for n10 (by decide)).2
  have g12 : ∀ B g w, WS B g 51 (L11, false) w → _ := fun B g w h => fitU8 h (flagN dd) (flagN_lt dd) (room_for n11 (by decide)).1 (room_for n11 (by decide)).2
  rw [← e1] at g1
  rw [← e2] at g2
  rw [← e3] at g3
  rw [← e4] at g4
  rw [← e5] at g5
  rw [← e6] at g6
  rw [← e7] at g7
  rw [← e8] at g8
  rw [← e9] at g9
  rw [← e10] at g10
  rw [← e11] at g11
  rw [← e12] at g12
  have hL : L12 = bodyL gen root sector sectors journal pack cmin cnorm cmax seed nbits dd := by rw [e12, e11, e10, e9, e8, e7, e6, e5, e4, e3, e2, e1]; simp [bodyL]
  have HL := hidden hL
  have hw : ∀ n : Nat, n < 4294967296 → IntKind.u32.wrap (n : Int) = (n : Int) := fun n h => by rw [IntKind.wrap_u32']; omega
  have w1' := hw root h1
  have w2' := hw sector h2
  have w3' := hw sectors h3
  have w4' := hw journal h4
  have w5' := hw pack h5
  have w6' := hw cmin h6
  have w7' := hw cnorm h7
  have w8' := hw cmax h8
  have w9' : IntKind.u16.wrap (nbits : Int) = (nbits : Int) := by simp [IntKind.wrap, IntKind.bits, IntKind.signed]; omega
  have G1 := hidden g1
  have G2 := hidden g2
  have G3 := hidden g3
  have G4 := hidden g4
  have G5 := hidden g5
  have G6 := hidden g6
  have G7 := hidden g7
  have G8 := hidden g8
  have G9 := hidden g9
  have G10 := hidden g10
  have G11 := hidden g11
  have G12 := hidden g12
  clear g1 g2 g3 g4 g5 g6 g7 g8 g9 g10 g11 g12 e1 e2 e3 e4 e5 e6 e7 e8 e9 e10 e11 e12 n1 n2 n3 n4 n5 n6 n7 n8 n9 n10 n11 n12 hL h0 h1 h2 h3 h4 h5 h6 h7 h8 h9 h10 hw
  go_enter Tryd.func68, Tryd.ntmps68
  go_wp2_with (first
    | (go_at_call 7; refine (newW _ _ (by decide) (by decide)).mono ?_; rintro e w1 ⟨rfl, s1, k1, z1⟩; clear z1; rw [size_alloc, size_alloc] at s1; have c1 : w1.cell? ⟨w.heap.size, 0, none⟩ = some (.int .u64 gen) := blk_cell (box_block2 k1))
    | (go_at_call 36; refine (G1.out _ _ _ s1).mono ?_; rintro e w2 ⟨rfl, s2, q1⟩; have k2 := Same.wr k1 q1 (size2 _ _ _) (size2 _ _ _); clear s1 c1 k1 q1; have c2 : w2.cell? ⟨w.heap.size, 1, none⟩ = some (.int .i64 root) := blk_cell (box_block2 k2))
    | (go_at_call 35; refine (G2.out _ _ _ s2).mono ?_; rintro e w3 ⟨rfl, s3, q2⟩; have k3 := Same.wr k2 q2 (size2 _ _ _) (size2 _ _ _); clear s2 c2 k2 q2; have c3 : w3.cell? ⟨w.heap.size + 1, 0, none⟩ = some (.int .i64 sector) := blk_cell (res_cells k3))
    | (go_at_call 35; refine (G3.out _ _ _ s3).mono ?_; rintro e w4 ⟨rfl, s4, q3⟩; have k4 := Same.wr k3 q3 (size2 _ _ _) (size2 _ _ _); clear s3 c3 k3 q3; have c4 : w4.cell? ⟨w.heap.size + 1, 1, none⟩ = some (.int .i64 sectors) := blk_cell (res_cells k4))
    | (go_at_call 35; refine (G4.out _ _ _ s4).mono ?_; rintro e w5 ⟨rfl, s5, q4⟩; have k5 := Same.wr k4 q4 (size2 _ _ _) (size2 _ _ _); clear s4 c4 k4 q4; have c5 : w5.cell? ⟨w.heap.size + 1, 2, none⟩ = some (.int .i64 journal) := blk_cell (res_cells k5))
    | (go_at_call 35; refine (G5.out _ _ _ s5).mono ?_; rintro e w6 ⟨rfl, s6, q5⟩; have k6 := Same.wr k5 q5 (size2 _ _ _) (size2 _ _ _); clear s5 c5 k5 q5; have c6 : w6.cell? ⟨w.heap.size + 1, 3, none⟩ = some (.int .i64 pack) := blk_cell (res_cells k6))
    | (go_at_call 35; refine (G6.out _ _ _ s6).mono ?_; rintro e w7 ⟨rfl, s7, q6⟩; have k7 := Same.wr k6 q6 (size2 _ _ _) (size2 _ _ _); clear s6 c6 k6 q6; have c7 : w7.cell? ⟨w.heap.size + 1, 4, none⟩ = some (.int .i64 cmin) := blk_cell (res_cells k7))
    | (go_at_call 35; refine (G7.out _ _ _ s7).mono ?_; rintro e w8 ⟨rfl, s8, q7⟩; have k8 := Same.wr k7 q7 (size2 _ _ _) (size2 _ _ _); clear s7 c7 k7 q7; have c8 : w8.cell? ⟨w.heap.size + 1, 5, none⟩ = some (.int .i64 cnorm) := blk_cell (res_cells k8))
    | (go_at_call 35; refine (G8.out _ _ _ s8).mono ?_; rintro e w9 ⟨rfl, s9, q8⟩; have k9 := Same.wr k8 q8 (size2 _ _ _) (size2 _ _ _); clear s8 c8 k8 q8; have c9 : w9.cell? ⟨w.heap.size + 1, 6, none⟩ = some (.int .i64 cmax) := blk_cell (res_cells k9))
    | (go_at_call 35; refine (G9.out _ _ _ s9).mono ?_; rintro e w10 ⟨rfl, s10, q9⟩; have k10 := Same.wr k9 q9 (size2 _ _ _) (size2 _ _ _); clear s9 c9 k9 q9; have c10 : w10.cell? ⟨w.heap.size + 1, 7, none⟩ = some (.int .u64 seed) := blk_cell (res_cells k10))
    | (go_at_call 36; refine (G10.out _ _ _ s10).mono ?_; rintro e w11 ⟨rfl, s11, q10⟩; have k11 := Same.wr k10 q10 (size2 _ _ _) (size2 _ _ _); clear s10 c10 k10 q10; have c11 : w11.cell? ⟨w.heap.size + 1, 8, none⟩ = some (.int .i64 nbits) := blk_cell (res_cells k11))
    | (go_at_call 34; refine (G11.out _ _ _ s11).mono ?_; rintro e w12 ⟨rfl, s12, q11⟩; have k12 := Same.wr k11 q11 (size2 _ _ _) (size2 _ _ _); clear s11 c11 k11 q11; have c12 : w12.cell? ⟨w.heap.size + 1, 9, none⟩ = some (.bool dd) := blk_cell (res_cells k12))
    | (go_at_call 33; refine (G12.out _ _ _ s12).mono ?_; rintro e w13 ⟨rfl, s13, q12⟩; have k13 := Same.wr k12 q12 (size2 _ _ _) (size2 _ _ _); clear s12 c12 k12 q12)
    | (go_at_call 71; refine (flag_any dd _).mono ?_; rintro e wf ⟨rfl, rfl⟩)
    | (go_at_call 11; refine (fitDone s13).mono ?_; rintro e wd ⟨rfl, rfl⟩))
  go_returns
  rw [← HL.out]
  exact ⟨rfl, Kept.trans (Kept.alloc (same_alloc _ _) _) k13⟩
end Go.Proofs.YtilkpboegpfijaaDoor
