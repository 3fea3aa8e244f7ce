/-
  CodecWrites (P2.2), in its bounded form: for every bound and every row of writes that hold 2^20 values and letters at most, a Writer tells what the document's answer tells, wherever it is asked: the law's call returns true and leaves its arguments as they were.
  Conditions: the form's bound on all that is read; the table crcSteps holds what the program's text lays (the card ties it).
-/
import Derived.Test.YtfeaaielopaonaaDoorCW1
namespace Go.Proofs.YtfeaaielopaonaaDoor
open Go.ChangeShapes Go.WideShapes Go.ChangeAt Go.RowKit Go.Joins Go.ChangeMaps
set_option linter.unusedVariables false
set_option linter.unusedSimpArgs false
theorem WS.same {B g : Nat} {most : Int} {st : List UInt8 × Bool} {w w' : World} (h : WS B g most st w) (k : Same w w') : WS B g most st w' := by
  obtain ⟨v, hv, ho⟩ := h
  exact ⟨v, hv.kept k (fun h => h) (fun _ _ h => h), ho⟩
theorem WS.lt {B g : Nat} {most : Int} {st : List UInt8 × Bool} {w : World} (h : WS B g most st w) : g < w.heap.size := by
  obtain ⟨v, hv, ho⟩ := h
  exact blk_lt hv.blk
theorem newW' (most : Int) (w : World) (h0 : -9223372036854775808 ≤ most) (h1 : most ≤ 9223372036854775807) :
    Calls Tryd.prog 4 #[.int .i64 most] w fun e w' => e = .returned (.pointer (some ⟨w.heap.size, 0, none⟩)) ∧ WS w.heap.size w.heap.size (max most 0) ([], false) w' ∧ Same w w' := by
  refine (newWriter most w h0 h1).mono ?_
  rintro e w' ⟨rfl, rfl⟩
  exact ⟨rfl, WS.new (most := most) w h1 (Nat.le_refl _), (Kept.refl _ _).alloc _⟩
theorem same_alloc (w : World) (o : Obj) : Same w (w.alloc o) := (Kept.refl _ _).alloc o
/-- A step's box. -/
theorem box3 {w1 w2 : World} {B g : Nat} {x y z : Value} (hg : g < w1.heap.size) (k : WT B g (w1.alloc (.cells #[x, y, z] 28)) w2) : w2.heap[w1.heap.size]? = some (.cells #[x, y, z] 28 (0, 0)) :=
  WT.blk k (blk_new w1 _) (by omega) (by decide)
set_option maxHeartbeats 8000000 in
set_option maxRecDepth 100000 in
theorem writes_walk (most : Int) (v : Value) (n : Nat) (f : Nat → Int × Nat × ByteArray) (w : World) (m0 : -9223372036854775808 ≤ most) (m1 : most ≤ 9223372036854775807) (hin : OpsAt w v n f) (hbk : ((List.range n).map fun i => (f i).2.2.size + 1).sum ≤ 1048576) (hT : Tab w) :
    Calls Tryd.prog 3 #[.int .i64 most, v] w fun e w' => e = .returned (.bool true) ∧ Same w w' := by
  obtain ⟨a, cap, rfl, hin⟩ := hin
  have hz : sumZ f n ≤ 10485760 := by have := sumZ_le f n; omega
  have HN := hidden (newW' most w m0 m1)
  have HA := hidden (fun W (k : Same w W) => awake_any W (hT.same k))
  have HI := hidden hin
  have HZ := hidden hz
  have hnn : n ≤ 1048576 := by
    have : ∀ m, m ≤ ((List.range m).map fun i => (f i).2.2.size + 1).sum := by
      intro m
      induction m with
      | zero => simp
      | succ m ih =>
        rw [List.range_succ, List.map_append, List.sum_append]
        simp only [List.map_cons, List.map_nil, List.sum_cons, List.sum_nil]
        omega
    have := this n
    omega
  clear hin hT hz hbk
  go_enter Tryd.func3, Tryd.ntmps3
  go_wp2_with (first
    | (go_at_call 4; refine HN.out.mono ?_; rintro e w1 ⟨rfl, s1, k1⟩; have S1 := hidden s1; have K1 := hidden k1; clear s1 k1)
    | (go_at_call 5; refine (HA.out _ K1.out).mono ?_; rintro e w2 ⟨rfl, k2⟩; have S2 := hidden (S1.out.same k2); have K2 := hidden (Kept.trans K1.out k2); clear k2))
  go_loopw [6, 7, 25] (fun all ov i wr => ∃ (k : Nat) (st : List UInt8 × Bool), k ≤ n ∧ i = .int .i64 k ∧ all = .string ⟨st.1.toArray⟩ ∧ ov = .bool st.2 ∧ WS w.heap.size w.heap.size (max most 0) st wr ∧ (st.2 = true → st.1 = []) ∧ (st.1.length : Int) ≤ max most 0 ∧ st.1.length ≤ sumZ f k ∧ Same w wr) (fun _ _ i _ => n - (intOf i).toNat)
  case atStart => exact ⟨0, ([], false), Nat.zero_le _, rfl, rfl, rfl, S2.out, (fun h => by cases h), by simp; omega, by simp, K2.out⟩
  case round =>
    obtain ⟨k, st, hk, rfl, rfl, rfl, hS, hi1, hi2, hi3, hK⟩ := hrel
    have HS := hidden hS
    have HK := hidden hK
    have hzk := sumZ_mono f hk
    have hzn := HZ.out
    by_cases hlt : k < n
    · obtain ⟨b, off, rfl, hc⟩ := HI.out (by omega)
      obtain ⟨c1, c2, c3, c4, c5⟩ := hc k hlt
      have x0 := Kept.cell hK (fun h => h) c3
      have x1 := Kept.cell hK (fun h => h) c4
      have x2 := Kept.cell hK (fun h => h) c5
      have hz1 := sumZ_mono f (show k + 1 ≤ n from hlt)
      have hzs : sumZ f (k + 1) = sumZ f k + ((f k).2.2.size + 10) := rfl
      generalize f k = q at c1 c2 c3 c4 c5 x0 x1 x2 hzs
      obtain ⟨kind, N, T⟩ := q
      simp only at c1 c2 x0 x1 x2 hzs
      have hT2 : T.size ≤ 10485760 := by omega
      have hwl := wop_lop most st kind N T hi1 hi2
      have hol := opB_len kind N T c1 (by omega)
      obtain ⟨j1, j2, j3⟩ := lop_inv most st (opB kind N T) hi1 hi2
      have HW : Hid (∀ W, Same wr W → Calls Tryd.prog 6 #[.pointer (some ⟨w.heap.size, 0, none⟩), .agg #[.int .i64 kind, .int .u64 N, .string T]] W fun e w' => e = .returned (.tuple #[]) ∧ WS w.heap.size w.heap.size (max most 0) (lop most st (opB kind N T)) w' ∧ WT w.heap.size w.heap.size W w') := hidden (fun W kk => by
        have := write_any (hS.same kk) kind N T c1 (by omega)
        rwa [hwl] at this)
      have HB := hidden (fun W => bytes_any kind N T W c1 (by omega))
      have q0 : (0 : Int) ≤ (k : Int) := Int.natCast_nonneg _
      have q1 : (k : Int) < (n : Int) := by omega
      have hgl := hS.lt
      have hlen : st.1.length ≤ 10485760 := by omega
      have hlop : lop most st (opB kind N T) = if st.2 = true then st else if ((opB kind N T).length : Int) > most - st.1.length ∧ (opB kind N T).length > 0 then ([], true) else (st.1 ++ opB kind N T, false) := rfl
      have hol2 : (opB kind N T).length ≤ 10485770 := by omega
      have J3 : Hid ((lop most st (opB kind N T)).1.length ≤ sumZ f (k + 1)) := by rw [Hid]; omega
      clear c3 c4 c5 hc hK hS hwl hol hzk hzn hz1 hzs j3
      generalize opB kind N T = bb at *
      have J1 := hidden j1
      have J2 := hidden j2
      obtain ⟨bs, ov⟩ := st
      simp only at hi1 hi2 hi3 hlen hlop ⊢
      cases ov with
      | true =>
        obtain rfl : bs = [] := hi1 rfl
        have hl2 : lop most ([], true) bb = ([], true) := by rw [hlop]; simp
        rw [hl2] at HW J1 J2 J3
        clear hlop hl2 j1 j2 hi1 hi2 hi3
        by_cases hk7 : kind = 7
        · subst hk7
          go_wp2_with (first
            | (go_at_call 6; refine (HW.out _ (same_alloc _ _)).mono ?_; rintro e w3 ⟨rfl, s3, t3⟩; have b3 := box3 hgl t3; have y0 : w3.cell? ⟨wr.heap.size, 0, none⟩ = some (.int .i64 7) := blk_cell b3; have y1 : w3.cell? ⟨wr.heap.size, 1, none⟩ = some (.int .u64 N) := blk_cell b3; have y2 : w3.cell? ⟨wr.heap.size, 2, none⟩ = some (.string T) := blk_cell b3; have B3 := hidden b3; have S3 := hidden s3; have K3 := hidden (Same.wr (HK.out.alloc _) t3 (Nat.le_refl _) (Nat.le_refl _)); clear b3 s3 t3)
            | (go_at_call 7; refine (HB.out _).mono ?_; rintro e w4 ⟨rfl, k4⟩; have b4 := blk_kept k4 (fun h => h) B3.out; have z0 : w4.cell? ⟨wr.heap.size, 0, none⟩ = some (.int .i64 7) := blk_cell b4; have S4 := hidden (S3.out.same k4); have K4 := hidden (Kept.trans K3.out k4); clear k4 b4)
            | (go_at_call 8; refine (wDone S4.out).mono ?_; rintro e w5 ⟨rfl, rfl⟩; simp only [wdone, if_true, Bool.false_eq_true, if_false])
            | (go_at_call 9; refine (wLen S4.out).mono ?_; rintro e w5 ⟨rfl, rfl⟩))
          go_roundw
          case rel => exact ⟨k + 1, ([], true), by omega, by go_num, rfl, rfl, S4.out, (fun _ => rfl), J2.out, J3.out, K4.out⟩
          case measure => simp [intOf]; omega
        · have hk8 : (kind == 7) = false := by simpa using hk7
          go_wp2_with (first
            | (go_at_call 6; refine (HW.out _ (same_alloc _ _)).mono ?_; rintro e w3 ⟨rfl, s3, t3⟩; have b3 := box3 hgl t3; have y0 : w3.cell? ⟨wr.heap.size, 0, none⟩ = some (.int .i64 kind) := blk_cell b3; have y1 : w3.cell? ⟨wr.heap.size, 1, none⟩ = some (.int .u64 N) := blk_cell b3; have y2 : w3.cell? ⟨wr.heap.size, 2, none⟩ = some (.string T) := blk_cell b3; have B3 := hidden b3; have S3 := hidden s3; have K3 := hidden (Same.wr (HK.out.alloc _) t3 (Nat.le_refl _) (Nat.le_refl _)); clear b3 s3 t3)
            | (go_at_call 7; refine (HB.out _).mono ?_; rintro e w4 ⟨rfl, k4⟩; have b4 := blk_kept k4 (fun h => h) B3.out; have z0 : w4.cell? ⟨wr.heap.size, 0, none⟩ = some (.int .i64 kind) := blk_cell b4; have S4 := hidden (S3.out.same k4); have K4 := hidden (Kept.trans K3.out k4); clear k4 b4))
          go_roundw
          case rel => exact ⟨k + 1, ([], true), by omega, by go_num, rfl, rfl, S4.out, (fun _ => rfl), J2.out, J3.out, K4.out⟩
          case measure => simp [intOf]; omega
      | false =>
        have hmw : IntKind.i64.wrap (most - (bs.length : Int)) = most - (bs.length : Int) := by rw [IntKind.wrap_i64]; omega
        by_cases hbig : (bb.length : Int) > most - bs.length ∧ bb.length > 0
        · have hl2 : lop most (bs, false) bb = ([], true) := by rw [hlop, if_neg (by simp), if_pos hbig]
          rw [hl2] at HW J1 J2 J3
          obtain ⟨hb1, hb2⟩ := hbig
          have hb3 : most - (bs.length : Int) < (bb.length : Int) := hb1
          have hb4 : (0 : Int) < (bb.length : Int) := by omega
          clear hlop hl2 j1 j2 hi1 hi3
          by_cases hk7 : kind = 7
          · subst hk7
            go_wp2_with (first
              | (go_at_call 6; refine (HW.out _ (same_alloc _ _)).mono ?_; rintro e w3 ⟨rfl, s3, t3⟩; have b3 := box3 hgl t3; have y0 : w3.cell? ⟨wr.heap.size, 0, none⟩ = some (.int .i64 7) := blk_cell b3; have y1 : w3.cell? ⟨wr.heap.size, 1, none⟩ = some (.int .u64 N) := blk_cell b3; have y2 : w3.cell? ⟨wr.heap.size, 2, none⟩ = some (.string T) := blk_cell b3; have B3 := hidden b3; have S3 := hidden s3; have K3 := hidden (Same.wr (HK.out.alloc _) t3 (Nat.le_refl _) (Nat.le_refl _)); clear b3 s3 t3)
              | (go_at_call 7; refine (HB.out _).mono ?_; rintro e w4 ⟨rfl, k4⟩; have b4 := blk_kept k4 (fun h => h) B3.out; have z0 : w4.cell? ⟨wr.heap.size, 0, none⟩ = some (.int .i64 7) := blk_cell b4; have S4 := hidden (S3.out.same k4); have K4 := hidden (Kept.trans K3.out k4); clear k4 b4)
              | (go_at_call 8; refine (wDone S4.out).mono ?_; rintro e w5 ⟨rfl, rfl⟩; simp only [wdone, if_true, Bool.false_eq_true, if_false])
              | (go_at_call 9; refine (wLen S4.out).mono ?_; rintro e w5 ⟨rfl, rfl⟩))
            go_roundw
            case rel => exact ⟨k + 1, ([], true), by omega, by go_num, rfl, rfl, S4.out, (fun _ => rfl), J2.out, J3.out, K4.out⟩
            case measure => simp [intOf]; omega
          · have hk8 : (kind == 7) = false := by simpa using hk7
            go_wp2_with (first
              | (go_at_call 6; refine (HW.out _ (same_alloc _ _)).mono ?_; rintro e w3 ⟨rfl, s3, t3⟩; have b3 := box3 hgl t3; have y0 : w3.cell? ⟨wr.heap.size, 0, none⟩ = some (.int .i64 kind) := blk_cell b3; have y1 : w3.cell? ⟨wr.heap.size, 1, none⟩ = some (.int .u64 N) := blk_cell b3; have y2 : w3.cell? ⟨wr.heap.size, 2, none⟩ = some (.string T) := blk_cell b3; have B3 := hidden b3; have S3 := hidden s3; have K3 := hidden (Same.wr (HK.out.alloc _) t3 (Nat.le_refl _) (Nat.le_refl _)); clear b3 s3 t3)
              | (go_at_call 7; refine (HB.out _).mono ?_; rintro e w4 ⟨rfl, k4⟩; have b4 := blk_kept k4 (fun h => h) B3.out; have z0 : w4.cell? ⟨wr.heap.size, 0, none⟩ = some (.int .i64 kind) := blk_cell b4; have S4 := hidden (S3.out.same k4); have K4 := hidden (Kept.trans K3.out k4); clear k4 b4))
            go_roundw
            case rel => exact ⟨k + 1, ([], true), by omega, by go_num, rfl, rfl, S4.out, (fun _ => rfl), J2.out, J3.out, K4.out⟩
            case measure => simp [intOf]; omega
        · have hl2 : lop most (bs, false) bb = (bs ++ bb, false) := by rw [hlop, if_neg (by simp), if_neg hbig]
          rw [hl2] at HW J1 J2 J3
          have hb3 : (decide (most - (bs.length : Int) < (bb.length : Int)) && decide ((0 : Int) < (bb.length : Int))) = false := by
            rw [Bool.and_eq_false_iff, decide_eq_false_iff_not, decide_eq_false_iff_not]
            omega
          have hadd : ∀ W : World, (Op.stringOp .add ⟨bs.toArray⟩ ⟨bb.toArray⟩).run Tryd.prog W = .ok (.string ⟨(bs ++ bb).toArray⟩) W := fun W => by
            have e1 : (⟨bs.toArray⟩ : ByteArray).size = bs.length := by rw [← size_list]
            have e2 : (⟨bb.toArray⟩ : ByteArray).size = bb.length := by rw [← size_list]
            rw [run_string_add_sum W _ _ (by rw [e1, e2]; omega)]
            first | rfl | (congr 2; apply ByteArray.ext; simp)
          clear hlop hl2 j1 j2 hi1 hi3
          rcases Bool.and_eq_false_iff.1 hb3 with hb4 | hb4
          · have hb5 : ¬ most - (bs.length : Int) < (bb.length : Int) := of_decide_eq_false hb4
            clear hb3 hb4 hbig
            generalize hLL : bs ++ bb = LL at *
            clear hLL
            by_cases hk7 : kind = 7
            · subst hk7
              go_wp2_with (first
                | (go_at_call 6; refine (HW.out _ (same_alloc _ _)).mono ?_; rintro e w3 ⟨rfl, s3, t3⟩; have b3 := box3 hgl t3; have y0 : w3.cell? ⟨wr.heap.size, 0, none⟩ = some (.int .i64 7) := blk_cell b3; have y1 : w3.cell? ⟨wr.heap.size, 1, none⟩ = some (.int .u64 N) := blk_cell b3; have y2 : w3.cell? ⟨wr.heap.size, 2, none⟩ = some (.string T) := blk_cell b3; have B3 := hidden b3; have S3 := hidden s3; have K3 := hidden (Same.wr (HK.out.alloc _) t3 (Nat.le_refl _) (Nat.le_refl _)); clear b3 s3 t3)
                | (go_at_call 7; refine (HB.out _).mono ?_; rintro e w4 ⟨rfl, k4⟩; have b4 := blk_kept k4 (fun h => h) B3.out; have z0 : w4.cell? ⟨wr.heap.size, 0, none⟩ = some (.int .i64 7) := blk_cell b4; have S4 := hidden (S3.out.same k4); have K4 := hidden (Kept.trans K3.out k4); clear k4 b4)
                | (go_at_call 8; refine (wDone S4.out).mono ?_; rintro e w5 ⟨rfl, rfl⟩; simp only [wdone, if_true, Bool.false_eq_true, if_false])
                | (go_at_call 9; refine (wLen S4.out).mono ?_; rintro e w5 ⟨rfl, rfl⟩))
              go_roundw
              case rel => exact ⟨k + 1, (LL, false), by omega, by go_num, rfl, rfl, S4.out, (fun h => by cases h), J2.out, J3.out, K4.out⟩
              case measure => simp [intOf]; omega
            · have hk8 : (kind == 7) = false := by simpa using hk7
              go_wp2_with (first
                | (go_at_call 6; refine (HW.out _ (same_alloc _ _)).mono ?_; rintro e w3 ⟨rfl, s3, t3⟩; have b3 := box3 hgl t3; have y0 : w3.cell? ⟨wr.heap.size, 0, none⟩ = some (.int .i64 kind) := blk_cell b3; have y1 : w3.cell? ⟨wr.heap.size, 1, none⟩ = some (.int .u64 N) := blk_cell b3; have y2 : w3.cell? ⟨wr.heap.size, 2, none⟩ = some (.string T) := blk_cell b3; have B3 := hidden b3; have S3 := hidden s3; have K3 := hidden (Same.wr (HK.out.alloc _) t3 (Nat.le_refl _) (Nat.le_refl _)); clear b3 s3 t3)
                | (go_at_call 7; refine (HB.out _).mono ?_; rintro e w4 ⟨rfl, k4⟩; have b4 := blk_kept k4 (fun h => h) B3.out; have z0 : w4.cell? ⟨wr.heap.size, 0, none⟩ = some (.int .i64 kind) := blk_cell b4; have S4 := hidden (S3.out.same k4); have K4 := hidden (Kept.trans K3.out k4); clear k4 b4))
              go_roundw
              case rel => exact ⟨k + 1, (LL, false), by omega, by go_num, rfl, rfl, S4.out, (fun h => by cases h), J2.out, J3.out, K4.out⟩
              case measure => simp [intOf]; omega
          · have hb5 : ¬ (0 : Int) < (bb.length : Int) := of_decide_eq_false hb4
            have hb6 : bb = [] := List.eq_nil_of_length_eq_zero (by omega)
            subst hb6
            rw [List.append_nil] at *
            clear hb3 hb4 hbig hb5
            by_cases hb7 : most - (bs.length : Int) < 0
            · skip
              by_cases hk7 : kind = 7
              · subst hk7
                go_wp2_with (first
                  | (go_at_call 6; refine (HW.out _ (same_alloc _ _)).mono ?_; rintro e w3 ⟨rfl, s3, t3⟩; have b3 := box3 hgl t3; have y0 : w3.cell? ⟨wr.heap.size, 0, none⟩ = some (.int .i64 7) := blk_cell b3; have y1 : w3.cell? ⟨wr.heap.size, 1, none⟩ = some (.int .u64 N) := blk_cell b3; have y2 : w3.cell? ⟨wr.heap.size, 2, none⟩ = some (.string T) := blk_cell b3; have B3 := hidden b3; have S3 := hidden s3; have K3 := hidden (Same.wr (HK.out.alloc _) t3 (Nat.le_refl _) (Nat.le_refl _)); clear b3 s3 t3)
                  | (go_at_call 7; refine (HB.out _).mono ?_; rintro e w4 ⟨rfl, k4⟩; have b4 := blk_kept k4 (fun h => h) B3.out; have z0 : w4.cell? ⟨wr.heap.size, 0, none⟩ = some (.int .i64 7) := blk_cell b4; have S4 := hidden (S3.out.same k4); have K4 := hidden (Kept.trans K3.out k4); clear k4 b4)
                  | (go_at_call 8; refine (wDone S4.out).mono ?_; rintro e w5 ⟨rfl, rfl⟩; simp only [wdone, if_true, Bool.false_eq_true, if_false])
                  | (go_at_call 9; refine (wLen S4.out).mono ?_; rintro e w5 ⟨rfl, rfl⟩))
                go_roundw
                case rel => exact ⟨k + 1, (bs, false), by omega, by go_num, rfl, rfl, S4.out, (fun h => by cases h), J2.out, J3.out, K4.out⟩
                case measure => simp [intOf]; omega
              · have hk8 : (kind == 7) = false := by simpa using hk7
                go_wp2_with (first
                  | (go_at_call 6; refine (HW.out _ (same_alloc _ _)).mono ?_; rintro e w3 ⟨rfl, s3, t3⟩; have b3 := box3 hgl t3; have y0 : w3.cell? ⟨wr.heap.size, 0, none⟩ = some (.int .i64 kind) := blk_cell b3; have y1 : w3.cell? ⟨wr.heap.size, 1, none⟩ = some (.int .u64 N) := blk_cell b3; have y2 : w3.cell? ⟨wr.heap.size, 2, none⟩ = some (.string T) := blk_cell b3; have B3 := hidden b3; have S3 := hidden s3; have K3 := hidden (Same.wr (HK.out.alloc _) t3 (Nat.le_refl _) (Nat.le_refl _)); clear b3 s3 t3)
                  | (go_at_call 7; refine (HB.out _).mono ?_; rintro e w4 ⟨rfl, k4⟩; have b4 := blk_kept k4 (fun h => h) B3.out; have z0 : w4.cell? ⟨wr.heap.size, 0, none⟩ = some (.int .i64 kind) := blk_cell b4; have S4 := hidden (S3.out.same k4); have K4 := hidden (Kept.trans K3.out k4); clear k4 b4))
                go_roundw
                case rel => exact ⟨k + 1, (bs, false), by omega, by go_num, rfl, rfl, S4.out, (fun h => by cases h), J2.out, J3.out, K4.out⟩
                case measure => simp [intOf]; omega
            · skip
              by_cases hk7 : kind = 7
              · subst hk7
                go_wp2_with (first
                  | (go_at_call 6; refine (HW.out _ (same_alloc _ _)).mono ?_; rintro e w3 ⟨rfl, s3, t3⟩; have b3 := box3 hgl t3; have y0 : w3.cell? ⟨wr.heap.size, 0, none⟩ = some (.int .i64 7) := blk_cell b3; have y1 : w3.cell? ⟨wr.heap.size, 1, none⟩ = some (.int .u64 N) := blk_cell b3; have y2 : w3.cell? ⟨wr.heap.size, 2, none⟩ = some (.string T) := blk_cell b3; have B3 := hidden b3; have S3 := hidden s3; have K3 := hidden (Same.wr (HK.out.alloc _) t3 (Nat.le_refl _) (Nat.le_refl _)); clear b3 s3 t3)
                  | (go_at_call 7; refine (HB.out _).mono ?_; rintro e w4 ⟨rfl, k4⟩; have b4 := blk_kept k4 (fun h => h) B3.out; have z0 : w4.cell? ⟨wr.heap.size, 0, none⟩ = some (.int .i64 7) := blk_cell b4; have S4 := hidden (S3.out.same k4); have K4 := hidden (Kept.trans K3.out k4); clear k4 b4)
                  | (go_at_call 8; refine (wDone S4.out).mono ?_; rintro e w5 ⟨rfl, rfl⟩; simp only [wdone, if_true, Bool.false_eq_true, if_false])
                  | (go_at_call 9; refine (wLen S4.out).mono ?_; rintro e w5 ⟨rfl, rfl⟩))
                go_roundw
                case rel => exact ⟨k + 1, (bs, false), by omega, by go_num, rfl, rfl, S4.out, (fun h => by cases h), J2.out, J3.out, K4.out⟩
                case measure => simp [intOf]; omega
              · have hk8 : (kind == 7) = false := by simpa using hk7
                go_wp2_with (first
                  | (go_at_call 6; refine (HW.out _ (same_alloc _ _)).mono ?_; rintro e w3 ⟨rfl, s3, t3⟩; have b3 := box3 hgl t3; have y0 : w3.cell? ⟨wr.heap.size, 0, none⟩ = some (.int .i64 kind) := blk_cell b3; have y1 : w3.cell? ⟨wr.heap.size, 1, none⟩ = some (.int .u64 N) := blk_cell b3; have y2 : w3.cell? ⟨wr.heap.size, 2, none⟩ = some (.string T) := blk_cell b3; have B3 := hidden b3; have S3 := hidden s3; have K3 := hidden (Same.wr (HK.out.alloc _) t3 (Nat.le_refl _) (Nat.le_refl _)); clear b3 s3 t3)
                  | (go_at_call 7; refine (HB.out _).mono ?_; rintro e w4 ⟨rfl, k4⟩; have b4 := blk_kept k4 (fun h => h) B3.out; have z0 : w4.cell? ⟨wr.heap.size, 0, none⟩ = some (.int .i64 kind) := blk_cell b4; have S4 := hidden (S3.out.same k4); have K4 := hidden (Kept.trans K3.out k4); clear k4 b4))
                go_roundw
                case rel => exact ⟨k + 1, (bs, false), by omega, by go_num, rfl, rfl, S4.out, (fun h => by cases h), J2.out, J3.out, K4.out⟩
                case measure => simp [intOf]; omega
    · obtain rfl : k = n := by omega
      have q1 : ¬ (k : Int) < (k : Int) := by omega
      obtain ⟨bs, ov⟩ := st
      cases ov with
      | true =>
        obtain rfl : bs = [] := hi1 rfl
        clear hi1 hi2 hi3 hS hK hzk hzn
        go_wp2_with (first
          | (go_at_call 8; refine (wDone HS.out).mono ?_; rintro e w5 ⟨rfl, rfl⟩; simp only [wdone, if_true])
          | (go_at_call 9; refine (wLen HS.out).mono ?_; rintro e w5 ⟨rfl, rfl⟩))
        go_returns
        exact ⟨rfl, HK.out⟩
      | false =>
        have hbl : bs.length ≤ 10485760 := by simp only at hi3; omega
        clear hi1 hi2 hi3 hS hK hzk hzn
        go_wp2_with (first
          | (go_at_call 8; refine (wDone HS.out).mono ?_; rintro e w5 ⟨rfl, rfl⟩; simp only [wdone, Bool.false_eq_true, if_false])
          | (go_at_call 9; refine (wLen HS.out).mono ?_; rintro e w5 ⟨rfl, rfl⟩))
        go_returns
        exact ⟨rfl, HK.out⟩
end Go.Proofs.YtfeaaielopaonaaDoor
namespace Go.Proofs.YtfeaaielopaonaaDoor.CodecWrites
open Go.ChangeShapes Go.WideShapes Go.ChangeAt Go.RowKit Go.Joins Go.ChangeMaps
set_option maxRecDepth 100000 in
theorem contract (H : Type) (enc : TypeId × Value → H) (W : World) (base : Nat) (args : Array Value) (ds gs : List (DataW H)) (before : List MemPlace)
    (hval : ∀ (j : Nat) t v, Tryd.f3.params[j]? = some t → args[j]? = some v → Value.okWide Tryd.prog W .any base t v)
    (hW : DataW.Whole enc Tryd.prog Tryd.f3.params.toList Rows.codecWritesSpec.vars false W args.toList ds gs before)
    (hsz : (DataW.weightsEach Tryd.prog (Tryd.f3.params.toList ++ (OpenSpec.ofChange Rows.codecWritesSpec).bare.plain.varTypes Tryd.prog) (ds ++ gs)).all (· ≤ reachBytes) = true)
    (hk : Rows.uptoSmall H (ds ++ gs) = true)
    (hL : laidMetH Tryd.prog Rows.codecWritesUptoRow.laid W) :
    Calls Tryd.prog 3 args W fun e W' => ∃ v, e = .returned v ∧ Rows.codecWritesSpec.post enc Tryd.prog Tryd.f3 false true false false W args v W' := by
  have hW' := hW
  obtain ⟨p, q, hA0, hV, rfl, hfz, hnd⟩ := hW
  have hA : DataW.TrodAll enc Tryd.prog W 0 (fun _ => true) true Tryd.f3.params.toList args.toList ds p := hA0
  rw [Tryd.params3] at hA hval hsz
  obtain ⟨v0, vs0, d0, ds0, p0, q0, hargs, rfl, rfl, h0, r0⟩ := trodAll_cons hA
  obtain ⟨v1, vs1, d1, ds1, p1, q1, rfl, rfl, rfl, h1, r1⟩ := trodAll_cons r0
  obtain ⟨rfl, rfl, rfl⟩ := trodAll_nil r1
  obtain rfl : args = #[v0, v1] := by cases args; simp_all
  obtain ⟨rfl, rfl⟩ := trodVars_none hV
  obtain ⟨most, rfl, rfl, rfl, w_most⟩ := open_int Tryd.underlying3 (hval 0 3 v0 rfl rfl) h0
  have b_most : -9223372036854775808 ≤ most ∧ most ≤ 9223372036854775807 := by simpa [Lit.wf, IntKind.min, IntKind.max, IntKind.signed, IntKind.bits] using w_most
  obtain ⟨n_do, f_do, in_do, bk_do⟩ := ops_openU (hval 1 22 v1 rfl rfl) h1 _ _ 1 hsz rfl rfl
  have hbk : ((List.range n_do).map fun i => (f_do i).2.2.size + 1).sum ≤ 1048576 := by
    have h9 := of_decide_eq_true hk
    simp only [List.append_nil, Rows.uptoBulkAll] at h9
    omega
  refine (writes_walk most v1 n_do f_do W b_most.1 b_most.2 in_do hbk (tab_laid hL)).mono fun e W' ⟨he, hg⟩ => ?_
  subst he
  exact ⟨_, rfl, law_post laidOut (by rw [Tryd.params3]; decide +kernel) rfl hW' rfl Tryd.underlying4 ⟨rfl, rfl, rfl⟩ (hg.below (Nat.le_refl _) fun _ h => h.elim)⟩
set_option maxRecDepth 100000 in
theorem lifted (os : Os) (started : os.Started) (H : Type) (enc : TypeId × Value → H) (F : Stop.Interp) :
    ReturnsInHanded {} Tryd.checked os 3 .any ((Rows.OpenSpec.upto Rows.codecWritesSpec).preRow enc Tryd.prog Tryd.f3 Rows.codecWritesUptoRow.domain false Rows.codecWritesUptoRow.laid) (((Rows.OpenSpec.upto Rows.codecWritesSpec).at F).post enc Tryd.prog Tryd.f3 false true false false) := by
  refine returnsInHanded_of_row (C := Tryd.checked) (s := Rows.OpenSpec.upto Rows.codecWritesSpec) own started (by kernel_rfl) Tryd.func3
    (witness_row_at (enc := enc) (C := Tryd.checked) false ({ World.holding Tryd.prog os ⟨#[], #[], []⟩ with heap := (World.holding Tryd.prog os ⟨#[], #[], []⟩).heap.modify tabBlock fun | .cells _ t frozen => .cells (tabInts.map (Value.int .u32)).toArray t frozen | o => o }) #[.int .i64 0, .slice none 0 0] rfl (by kernel_rfl) (by kernel_rfl) (by kernel_rfl)
      (OpenSpec.preRow_of_cond (x := ([.lit (.int .i64 0), .nil], [], [])) 8 (by kernel_rfl) (by kernel_rfl) (fun k hk => by cases hk; kernel_rfl) (by kernel_rfl) (laidMet_of_run' 8 (by kernel_rfl) (by kernel_rfl)))) ?_
  intro W base args ds gs before hval hW _ hcond hsz hL _ _
  exact contract H enc W base args ds gs before hval hW hsz (hcond _ rfl) hL
theorem said : Rows.CodecWritesUptoSaid :=
  OpenClaim.holds_of_cond 3 Tryd.f3 rfl rfl rfl rfl rfl rfl rfl ⟨rfl, rfl, rfl, rfl, rfl⟩ rfl rfl rfl rfl rfl (by kernel_rfl) Tryd.func3 (by kernel_rfl)
    (of_decide_eq_true (by kernel_rfl)) (by unfold Func.isWrapper; first | (rw [if_pos (by decide +kernel)]; kernel_rfl) | (rw [if_neg (by decide +kernel)]; exact ⟨rfl, rfl⟩))
    (fun os started H enc _ F => by rw [OpenClaim.pre_eq_preRow]; exact lifted os started H enc F)
theorem plain (f : FuncId) (fn : Func) (hf : Tryd.pinned.checked.prog.funcNamed Rows.codecWritesUptoRow.func = some f) (hfn : Tryd.pinned.checked.prog.funcs[f]? = some fn) :
    false = Tryd.pinned.checked.prog.looks [] ∧ ∀ (j : Nat) t, fn.params[j]? = some t → Tryd.pinned.checked.prog.wantsStandIn t = false := by
  obtain rfl : f = 3 := Option.some.inj ((show Tryd.prog.funcNamed Rows.codecWritesUptoRow.func = some 3 by kernel_rfl).symm.trans hf) |>.symm
  obtain rfl : fn = Tryd.f3 := (Option.some.inj (Tryd.func3.symm.trans hfn)).symm
  refine ⟨by kernel_rfl, fun j t ht => ?_⟩
  rw [Tryd.params3] at ht
  have hm : t ∈ [3, 22] := by simpa using Array.mem_of_getElem? ht
  have hall : [3, 22].all (fun t => !Tryd.prog.wantsStandIn t) = true := by kernel_rfl
  have h1 := List.all_eq_true.1 hall t hm
  have h2 : Tryd.prog.wantsStandIn t = false := by simpa using h1
  exact h2
theorem card : Rows.CodecWritesUptoCardSaid :=
  Claim7.holds_tied_plain_at .later [] _ _ _ _ said (fun _ h => by cases h) (by kernel_rfl) (fun _ h => by cases h) codecWritesUpto_row_tie rfl ⟨rfl, rfl⟩ (by kernel_rfl) rfl plain (by kernel_rfl)
end Go.Proofs.YtfeaaielopaonaaDoor.CodecWrites
namespace Go.Proofs.YtfeaaielopaonaaDoor
theorem codecWritesUpto_card : Rows.CodecWritesUptoCardSaid := CodecWrites.card
end Go.Proofs.YtfeaaielopaonaaDoor
