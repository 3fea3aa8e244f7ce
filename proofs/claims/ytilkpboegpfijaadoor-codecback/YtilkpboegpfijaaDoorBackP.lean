/-
  CodecBack (P2.7): for every row of writes that come to 2^30 bytes at most, what was written is read back in the same order, and nothing is left: the law's call returns true and leaves its argument as it was.
  Condition: the table crcSteps holds what the program's text lays (the card ties it).
-/
import Derived.Test.YtilkpboegpfijaaDoorCTab
import Derived.Test.YtilkpboegpfijaaDoorBackQ
import Derived.Test.YtilkpboegpfijaaDoorFrameP
import Derived.Test.YtilkpboegpfijaaDoorOpsK
import Derived.Deep.RegionWith
namespace Go.Proofs.YtilkpboegpfijaaDoor
open Go.ChangeShapes Go.WideShapes Go.ChangeAt Go.RowKit Go.Joins Go.ChangeMaps
set_option linter.unusedVariables false
attribute [local go_sem ↓] Go.wp_at_zero Go.wp_at_succ

/-- What the first k steps put, and what the others put. -/
def putL (g : Nat → List UInt8) (k : Nat) : List UInt8 := ((List.range k).map g).flatten
def putR (g : Nat → List UInt8) (n k : Nat) : List UInt8 := (((List.range n).drop k).map g).flatten
theorem putL_succ (g : Nat → List UInt8) (k : Nat) : putL g (k + 1) = putL g k ++ g k := by simp [putL, List.range_succ]
theorem putR_cons (g : Nat → List UInt8) (n k : Nat) (h : k < n) : putR g n k = g k ++ putR g n (k + 1) := by
  unfold putR
  rw [List.drop_eq_getElem_cons (by simpa using h)]
  simp
theorem putR_end (g : Nat → List UInt8) (n : Nat) : putR g n n = [] := by
  unfold putR
  rw [List.drop_of_length_le (by simp)]
  rfl
theorem putR_all (g : Nat → List UInt8) (n : Nat) : putR g n 0 = putL g n := rfl
def sumZ (f : Nat → Int × Nat × ByteArray) : Nat → Nat
  | 0 => 0
  | k + 1 => sumZ f k + ((f k).2.2.size + 10)
def gB (f : Nat → Int × Nat × ByteArray) (i : Nat) : List UInt8 := opB (f i).1 (f i).2.1 (f i).2.2
theorem putL_len (f : Nat → Int × Nat × ByteArray) (n : Nat) (hf : ∀ i, i < n → (f i).2.1 < 18446744073709551616 ∧ (f i).2.2.size ≤ 140737488351232) : ∀ k, k ≤ n → (putL (gB f) k).length ≤ sumZ f k
  | 0, _ => by simp [putL, sumZ]
  | k + 1, h => by
    have h1 := putL_len f n hf k (by omega)
    have h2 := hf k (by omega)
    have h3 := opB_len (f k).1 (f k).2.1 (f k).2.2 h2.1 (by omega)
    rw [putL_succ, List.length_append]
    unfold sumZ
    unfold gB at h1 ⊢
    omega
theorem WS.same {B g : Nat} {most : Int} {st : List UInt8 × Bool} {w w' : World} (h : WS B g most st w) (k : Same w w') : WS B g most st w' := by
  obtain ⟨v, hv, ho⟩ := h
  exact ⟨v, hv.kept k (fun h => h) (fun _ _ h => h), ho⟩

theorem bk8 {g : Nat} {N : Nat} {R : List UInt8} {w : World} (h : Rd g (⟨(be 1 (N % 256) ++ R).toArray⟩, 0) w) : Calls Tryd.prog 14 #[.pointer (some ⟨g, 0, none⟩)] w fun x w' => x = .returned (.int .u8 (N % 256 : Nat)) ∧ Rd g (⟨R.toArray⟩, 0) w' ∧ Kept (only g) w w' := by
  have k := rU8 h
  obtain ⟨e1, e2⟩ := back_num 1 (N % 256) (by omega) R
  rw [e1, e2] at k
  exact k

theorem bk16 {g : Nat} {N : Nat} {R : List UInt8} {w : World} (h : Rd g (⟨(be 2 (N % 65536) ++ R).toArray⟩, 0) w) : Calls Tryd.prog 15 #[.pointer (some ⟨g, 0, none⟩)] w fun x w' => x = .returned (.int .u16 (N % 65536 : Nat)) ∧ Rd g (⟨R.toArray⟩, 0) w' ∧ Kept (only g) w w' := by
  have k := rU16 h
  obtain ⟨e1, e2⟩ := back_num 2 (N % 65536) (by omega) R
  rw [e1, e2] at k
  exact k

theorem bk32 {g : Nat} {N : Nat} {R : List UInt8} {w : World} (h : Rd g (⟨(be 4 (N % 4294967296) ++ R).toArray⟩, 0) w) : Calls Tryd.prog 16 #[.pointer (some ⟨g, 0, none⟩)] w fun x w' => x = .returned (.int .u32 (N % 4294967296 : Nat)) ∧ Rd g (⟨R.toArray⟩, 0) w' ∧ Kept (only g) w w' := by
  have k := rU32 h
  obtain ⟨e1, e2⟩ := back_num 4 (N % 4294967296) (by omega) R
  rw [e1, e2] at k
  exact k

theorem bk64 {g : Nat} {N : Nat} {R : List UInt8} {w : World} (hN : N < 18446744073709551616) (h : Rd g (⟨(be 8 N ++ R).toArray⟩, 0) w) : Calls Tryd.prog 17 #[.pointer (some ⟨g, 0, none⟩)] w fun x w' => x = .returned (.int .u64 N) ∧ Rd g (⟨R.toArray⟩, 0) w' ∧ Kept (only g) w w' := by
  have k := rU64 h
  obtain ⟨e1, e2⟩ := back_num 8 N (by omega) R
  rw [e1, e2] at k
  exact k

theorem bkV {g : Nat} {N : Nat} {R : List UInt8} {w : World} (hN : N < 18446744073709551616) (h : Rd g (⟨(vbytes N ++ R).toArray⟩, 0) w) : Calls Tryd.prog 18 #[.pointer (some ⟨g, 0, none⟩)] w fun x w' => x = .returned (.int .u64 N) ∧ Rd g (⟨R.toArray⟩, 0) w' ∧ Kept (only g) w w' := by
  have k := rVar h
  rw [back_var N hN R] at k
  exact k
theorem bkT {g : Nat} {S : ByteArray} {R : List UInt8} {w : World} (hS : S.size < 18446744073709551616) (h : Rd g (⟨((vbytes S.size ++ S.data.toList) ++ R).toArray⟩, 0) w) : Calls Tryd.prog 19 #[.pointer (some ⟨g, 0, none⟩)] w fun x w' => x = .returned (.string S) ∧ Rd g (⟨R.toArray⟩, 0) w' ∧ Kept (only g) w w' := by
  rw [List.append_assoc] at h
  have k := rText h
  rw [back_text S hS R] at k
  exact k
theorem bkR {g : Nat} {S : ByteArray} {R : List UInt8} {w : World} (hS : S.size ≤ 140737488351232) (h : Rd g (⟨(S.data.toList ++ R).toArray⟩, 0) w) : Calls Tryd.prog 20 #[.pointer (some ⟨g, 0, none⟩), .int .i64 S.size] w fun x w' => x = .returned (.string S) ∧ Rd g (⟨R.toArray⟩, 0) w' ∧ Kept (only g) w w' := by
  have k := rRaw h S.size (by omega)
  rw [show rraw (⟨(S.data.toList ++ R).toArray⟩, 0) (S.size : Int) = rtake (⟨(S.data.toList ++ R).toArray⟩, 0) S.size by unfold rraw; rw [if_neg (by omega), Int.toNat_natCast], back_raw S R] at k
  exact k
set_option maxHeartbeats 8000000 in
set_option maxRecDepth 100000 in
theorem back_walk (v : Value) (n : Nat) (f : Nat → Int × Nat × ByteArray) (w : World) (hv : OpsAt w v n f) (hn : n ≤ 140737488351232) (hT : Tab w) :
    Calls Tryd.prog 4 #[v] w fun e w' => e = .returned (.bool true) ∧ Same w w' := by
  obtain ⟨a, cap, rfl, hc⟩ := hv
  have hf : ∀ i, i < n → (f i).2.1 < 18446744073709551616 ∧ (f i).2.2.size ≤ 140737488351232 := fun i hi => by
    obtain ⟨b, off, _, h⟩ := hc (by omega)
    exact ⟨(h i hi).1, (h i hi).2.1⟩
  have HF := hidden hf
  have HC := hidden hc
  have HT := hidden hT
  clear hc hT hf
  go_enter Tryd.func4, Tryd.ntmps4
  go_wp2_with (first
    | (go_at_call 7; refine (newW 1073741824 _ (by omega) (by omega)).mono ?_; rintro e w1 ⟨rfl, s1, k1, z1⟩)
    | (go_at_call 8; refine (awake_any _ (HT.out.same k1)).mono ?_; rintro e w2 ⟨rfl, k2⟩; have K2 : Hid (Same w w2) := hidden (Kept.trans k1 k2); have S2 := hidden (s1.same k2); clear s1 k1 k2 z1))
  go_loopw [4, 22] (fun z i wr => ∃ k : Nat, k ≤ n ∧ sumZ f k ≤ 1073741824 ∧ z = .int .i64 (sumZ f k : Nat) ∧ i = .int .i64 k ∧ WS w.heap.size w.heap.size 1073741824 (putL (gB f) k, false) wr ∧ Same w wr) (fun _ i _ => n - (intOf i).toNat)
  case atStart => exact ⟨0, Nat.zero_le _, by simp [sumZ], rfl, rfl, S2.out, K2.out⟩
  case round =>
    obtain ⟨k, hk, hz, rfl, rfl, hW, hS⟩ := hrel
    have HW := hidden hW
    have HS := hidden hS
    have HL := hidden (putL_len f n HF.out k hk)
    clear hW
    by_cases hlt : k < n
    · obtain ⟨b, off, rfl, hcell⟩ := HC.out (by omega)
      obtain ⟨hN, hSz, h0, h1, h2⟩ := hcell k hlt
      have HB : Hid ((opB (f k).1 (f k).2.1 (f k).2.2).length ≤ (f k).2.2.size + 10) := hidden (opB_len (f k).1 (f k).2.1 (f k).2.2 hN (by omega))
      have r0 : wr.cell? ⟨b, off + k * 3, none⟩ = some (.int .i64 (f k).1) := Kept.cell hS (fun h => h) h0
      have r1 : wr.cell? ⟨b, off + k * 3 + 1, none⟩ = some (.int .u64 (f k).2.1) := Kept.cell hS (fun h => h) h1
      have r2 : wr.cell? ⟨b, off + k * 3 + 2, none⟩ = some (.string (f k).2.2) := Kept.cell hS (fun h => h) h2
      have HZ : Hid (sumZ f (k + 1) = sumZ f k + ((f k).2.2.size + 10)) := hidden rfl
      have HP : Hid (putL (gB f) (k + 1) = putL (gB f) k ++ opB (f k).1 (f k).2.1 (f k).2.2) := hidden (putL_succ _ _)
      clear hcell h0 h1 h2 hS
      generalize (f k).1 = kind at *
      generalize (f k).2.1 = N at *
      generalize (f k).2.2 = S at *
      generalize sumZ f k = Z at *
      have HZ0 := hidden hz
      have HN := hidden hN
      clear hN
      have hz' : (Z : Int) ≤ 1073741824 := by omega
      clear hz
      by_cases hov : (Z : Int) + ((S.size : Int) + 10) ≤ 1073741824
      · have HA := hidden (fun (W : World) (h : WS w.heap.size w.heap.size 1073741824 (putL (gB f) k, false) W) => write_any h kind N S HN.out (by have := HL.out; show (putL (gB f) k).length + 10 + S.size ≤ 140737488355328; omega))
        have hbb : decide ((1073741824 : Int) < (Z : Int) + ((S.size : Int) + 10)) = false := by simpa using hov
        have hzz : (Z : Int) ≤ 1099511627776 := by omega
        have HO := hidden hov
        clear hov hz'
        go_wp2_with (go_at_call 9; refine (HA.out _ (HW.out.same ((Kept.refl _ _).alloc _))).mono ?_; rintro e w3 ⟨rfl, s3, k3⟩)
        go_roundw
        case rel =>
          refine ⟨k + 1, by omega, by rw [HZ.out]; have := HO.out; omega, by rw [HZ.out]; go_num, by go_num, ?_, Same.wr (Kept.alloc HS.out _) k3 (Nat.le_refl _) (Nat.le_refl _)⟩
          rw [wop_fit kind N S (by have := HL.out; have := HB.out; have := HO.out; omega), ← HP.out] at s3
          exact s3
        case measure => simp [intOf]; omega
      · have hbb : decide ((1073741824 : Int) < (Z : Int) + ((S.size : Int) + 10)) = true := by simpa using hov
        have hzz : (Z : Int) ≤ 1099511627776 := by omega
        clear hov hz'
        go_wp2
        go_returns
        exact ⟨rfl, Kept.alloc HS.out _⟩
    · obtain rfl : k = n := by omega
      clear hS
      have HE : Hid ((putL (gB f) k).length ≤ 1073741824) := hidden (Nat.le_trans HL.out hz)
      go_wp2_with (first
        | (go_at_call 11; refine (fitDone HW.out).mono ?_; rintro e w3 ⟨rfl, rfl⟩)
        | (go_at_call 13; refine (newR ⟨(putL (gB f) k).toArray⟩ _ (by rw [ba_size]; have := HE.out; omega)).mono ?_; rintro e w4 ⟨rfl, s4, k4, z4⟩))
      have HG : Hid (w.heap.size ≤ wr.heap.size) := hidden HS.out.size
      have S4 := hidden s4
      have K4 : Hid (Same w w4) := hidden (Kept.trans HS.out k4)
      clear s4 k4 z4 hz
      generalize wr.heap.size = g at *
      go_loopw [53] (fun i wr => ∃ j : Nat, j ≤ k ∧ i = .int .i64 j ∧ Rd g (⟨(putR (gB f) k j).toArray⟩, 0) wr ∧ Same w wr) (fun i _ => k - (intOf i).toNat)
      case atStart => exact ⟨0, Nat.zero_le _, rfl, S4.out, K4.out⟩
      case round =>
        obtain ⟨j, hj, rfl, hR, hS2⟩ := hrel
        by_cases hjl : j < k
        · obtain ⟨b, off, rfl, hcell⟩ := HC.out (by omega)
          obtain ⟨hN, hSz, h0, h1, h2⟩ := hcell j hjl
          have hgw : g < wr.heap.size := blk_lt hR.blk
          have r0 : wr.cell? ⟨b, off + j * 3, none⟩ = some (.int .i64 (f j).1) := Kept.cell hS2 (fun h => h) h0
          have r1 : wr.cell? ⟨b, off + j * 3 + 1, none⟩ = some (.int .u64 (f j).2.1) := Kept.cell hS2 (fun h => h) h1
          have r2 : wr.cell? ⟨b, off + j * 3 + 2, none⟩ = some (.string (f j).2.2) := Kept.cell hS2 (fun h => h) h2
          rw [putR_cons _ _ _ hjl] at hR
          rw [show gB f j = opB (f j).1 (f j).2.1 (f j).2.2 from rfl] at hR
          have HS2 := hidden hS2
          clear hcell h0 h1 h2 hS2
          generalize (f j).1 = kind at *
          generalize (f j).2.1 = N at *
          generalize (f j).2.2 = S at *
          have HG2 := hidden hgw
          by_cases hk : kind < 0 ∨ 6 < kind
          · have e0 : opB kind N S = [] := by
              unfold opB
              rw [if_neg (by omega), if_neg (by omega), if_neg (by omega), if_neg (by omega), if_neg (by omega), if_neg (by omega), if_neg (by omega)]
            rw [e0, List.nil_append] at hR
            have HR := hidden hR
            have q0 : (kind == 0) = false := by simp; omega
            have q1 : (kind == 1) = false := by simp; omega
            have q2 : (kind == 2) = false := by simp; omega
            have q3 : (kind == 3) = false := by simp; omega
            have q4 : (kind == 4) = false := by simp; omega
            have q5 : (kind == 5) = false := by simp; omega
            have q6 : (kind == 6) = false := by simp; omega
            clear hR hk e0 hgw hN hSz
            go_wp2
            go_roundw
            case rel => exact ⟨j + 1, by omega, by go_num, HR.out.kept ((Kept.refl (fun _ => False) _).alloc _) (fun h => h), Kept.alloc HS2.out _⟩
            case measure => simp [intOf]; omega
          · have hkc : kind = 0 ∨ kind = 1 ∨ kind = 2 ∨ kind = 3 ∨ kind = 4 ∨ kind = 5 ∨ kind = 6 := by omega
            clear hk
            rcases hkc with rfl | rfl | rfl | rfl | rfl | rfl | rfl
            · have HN := hidden hN
              have HSz := hidden hSz
              have HSL : Hid (S.size < 18446744073709551616) := hidden (by omega)
              have e0 : opB 0 N S = be 1 (N % 256) := by simp [opB]
              rw [e0] at hR
              have HR := hidden (fun (W : World) (h : Rd g (⟨((be 1 (N % 256)) ++ putR (gB f) k (j + 1)).toArray⟩, 0) W) => bk8 h)
              have RD : Hid (Rd g (⟨((be 1 (N % 256)) ++ putR (gB f) k (j + 1)).toArray⟩, 0) (wr.alloc (.cells #[.int .i64 0, .int .u64 N, .string S] 28)).drew) := hidden (hR.kept ((Kept.refl (fun _ => False) _).alloc _).drew (fun h => h))
              have hbx : Hid ((wr.alloc (.cells #[.int .i64 0, .int .u64 N, .string S] 28)).drew.heap[wr.heap.size]? = some (.cells #[.int .i64 0, .int .u64 N, .string S] 28 (0, 0))) := hidden (blk_new wr _)
              have hw : IntKind.u8.wrap (N : Int) = ((N % 256 : Nat) : Int) := by rw [IntKind.wrap_u8']; omega
              clear hR e0 hgw hN hSz
              go_wp2
              go_region_with (go_at_call 14; refine (HR.out _ RD.out).mono ?_; rintro e w5 ⟨rfl, r5, k5⟩; have n1 : w5.cell? ⟨wr.heap.size, 1, none⟩ = some (.int .u64 N) := blk_cell (blk_kept k5 (fun e => absurd (show wr.heap.size = g from e) (by have := HG2.out; omega)) hbx.out); have n2 : w5.cell? ⟨wr.heap.size, 2, none⟩ = some (.string S) := blk_cell (blk_kept k5 (fun e => absurd (show wr.heap.size = g from e) (by have := HG2.out; omega)) hbx.out))
              all_goals
                go_wp2
                go_roundw
                case rel => exact ⟨j + 1, by omega, by go_num, r5, Same.rd (Kept.alloc HS2.out _).drew k5 HG.out⟩
                case measure => simp [intOf]; omega
            · have HN := hidden hN
              have HSz := hidden hSz
              have HSL : Hid (S.size < 18446744073709551616) := hidden (by omega)
              have e0 : opB 1 N S = be 2 (N % 65536) := by simp [opB]
              rw [e0] at hR
              have HR := hidden (fun (W : World) (h : Rd g (⟨((be 2 (N % 65536)) ++ putR (gB f) k (j + 1)).toArray⟩, 0) W) => bk16 h)
              have RD : Hid (Rd g (⟨((be 2 (N % 65536)) ++ putR (gB f) k (j + 1)).toArray⟩, 0) (wr.alloc (.cells #[.int .i64 1, .int .u64 N, .string S] 28)).drew) := hidden (hR.kept ((Kept.refl (fun _ => False) _).alloc _).drew (fun h => h))
              have hbx : Hid ((wr.alloc (.cells #[.int .i64 1, .int .u64 N, .string S] 28)).drew.heap[wr.heap.size]? = some (.cells #[.int .i64 1, .int .u64 N, .string S] 28 (0, 0))) := hidden (blk_new wr _)
              have hw : IntKind.u16.wrap (N : Int) = ((N % 65536 : Nat) : Int) := by rw [IntKind.wrap_u16]; omega
              clear hR e0 hgw hN hSz
              go_wp2
              go_region_with (go_at_call 15; refine (HR.out _ RD.out).mono ?_; rintro e w5 ⟨rfl, r5, k5⟩; have n1 : w5.cell? ⟨wr.heap.size, 1, none⟩ = some (.int .u64 N) := blk_cell (blk_kept k5 (fun e => absurd (show wr.heap.size = g from e) (by have := HG2.out; omega)) hbx.out); have n2 : w5.cell? ⟨wr.heap.size, 2, none⟩ = some (.string S) := blk_cell (blk_kept k5 (fun e => absurd (show wr.heap.size = g from e) (by have := HG2.out; omega)) hbx.out))
              all_goals
                go_wp2
                go_roundw
                case rel => exact ⟨j + 1, by omega, by go_num, r5, Same.rd (Kept.alloc HS2.out _).drew k5 HG.out⟩
                case measure => simp [intOf]; omega
            · have HN := hidden hN
              have HSz := hidden hSz
              have HSL : Hid (S.size < 18446744073709551616) := hidden (by omega)
              have e0 : opB 2 N S = be 4 (N % 4294967296) := by simp [opB]
              rw [e0] at hR
              have HR := hidden (fun (W : World) (h : Rd g (⟨((be 4 (N % 4294967296)) ++ putR (gB f) k (j + 1)).toArray⟩, 0) W) => bk32 h)
              have RD : Hid (Rd g (⟨((be 4 (N % 4294967296)) ++ putR (gB f) k (j + 1)).toArray⟩, 0) (wr.alloc (.cells #[.int .i64 2, .int .u64 N, .string S] 28)).drew) := hidden (hR.kept ((Kept.refl (fun _ => False) _).alloc _).drew (fun h => h))
              have hbx : Hid ((wr.alloc (.cells #[.int .i64 2, .int .u64 N, .string S] 28)).drew.heap[wr.heap.size]? = some (.cells #[.int .i64 2, .int .u64 N, .string S] 28 (0, 0))) := hidden (blk_new wr _)
              have hw : IntKind.u32.wrap (N : Int) = ((N % 4294967296 : Nat) : Int) := by rw [IntKind.wrap_u32']; omega
              clear hR e0 hgw hN hSz
              go_wp2
              go_region_with (go_at_call 16; refine (HR.out _ RD.out).mono ?_; rintro e w5 ⟨rfl, r5, k5⟩; have n1 : w5.cell? ⟨wr.heap.size, 1, none⟩ = some (.int .u64 N) := blk_cell (blk_kept k5 (fun e => absurd (show wr.heap.size = g from e) (by have := HG2.out; omega)) hbx.out); have n2 : w5.cell? ⟨wr.heap.size, 2, none⟩ = some (.string S) := blk_cell (blk_kept k5 (fun e => absurd (show wr.heap.size = g from e) (by have := HG2.out; omega)) hbx.out))
              all_goals
                go_wp2
                go_roundw
                case rel => exact ⟨j + 1, by omega, by go_num, r5, Same.rd (Kept.alloc HS2.out _).drew k5 HG.out⟩
                case measure => simp [intOf]; omega
            · have HN := hidden hN
              have HSz := hidden hSz
              have HSL : Hid (S.size < 18446744073709551616) := hidden (by omega)
              have e0 : opB 3 N S = be 8 N := by simp [opB]
              rw [e0] at hR
              have HR := hidden (fun (W : World) (h : Rd g (⟨((be 8 N) ++ putR (gB f) k (j + 1)).toArray⟩, 0) W) => bk64 HN.out h)
              have RD : Hid (Rd g (⟨((be 8 N) ++ putR (gB f) k (j + 1)).toArray⟩, 0) (wr.alloc (.cells #[.int .i64 3, .int .u64 N, .string S] 28)).drew) := hidden (hR.kept ((Kept.refl (fun _ => False) _).alloc _).drew (fun h => h))
              have hbx : Hid ((wr.alloc (.cells #[.int .i64 3, .int .u64 N, .string S] 28)).drew.heap[wr.heap.size]? = some (.cells #[.int .i64 3, .int .u64 N, .string S] 28 (0, 0))) := hidden (blk_new wr _)
              clear hR e0 hgw hN hSz
              go_wp2
              go_region_with (go_at_call 17; refine (HR.out _ RD.out).mono ?_; rintro e w5 ⟨rfl, r5, k5⟩; have n1 : w5.cell? ⟨wr.heap.size, 1, none⟩ = some (.int .u64 N) := blk_cell (blk_kept k5 (fun e => absurd (show wr.heap.size = g from e) (by have := HG2.out; omega)) hbx.out); have n2 : w5.cell? ⟨wr.heap.size, 2, none⟩ = some (.string S) := blk_cell (blk_kept k5 (fun e => absurd (show wr.heap.size = g from e) (by have := HG2.out; omega)) hbx.out))
              all_goals
                go_wp2
                go_roundw
                case rel => exact ⟨j + 1, by omega, by go_num, r5, Same.rd (Kept.alloc HS2.out _).drew k5 HG.out⟩
                case measure => simp [intOf]; omega
            · have HN := hidden hN
              have HSz := hidden hSz
              have HSL : Hid (S.size < 18446744073709551616) := hidden (by omega)
              have e0 : opB 4 N S = vbytes N := by simp [opB]
              rw [e0] at hR
              have HR := hidden (fun (W : World) (h : Rd g (⟨((vbytes N) ++ putR (gB f) k (j + 1)).toArray⟩, 0) W) => bkV HN.out h)
              have RD : Hid (Rd g (⟨((vbytes N) ++ putR (gB f) k (j + 1)).toArray⟩, 0) (wr.alloc (.cells #[.int .i64 4, .int .u64 N, .string S] 28)).drew) := hidden (hR.kept ((Kept.refl (fun _ => False) _).alloc _).drew (fun h => h))
              have hbx : Hid ((wr.alloc (.cells #[.int .i64 4, .int .u64 N, .string S] 28)).drew.heap[wr.heap.size]? = some (.cells #[.int .i64 4, .int .u64 N, .string S] 28 (0, 0))) := hidden (blk_new wr _)
              clear hR e0 hgw hN hSz
              go_wp2
              go_region_with (go_at_call 18; refine (HR.out _ RD.out).mono ?_; rintro e w5 ⟨rfl, r5, k5⟩; have n1 : w5.cell? ⟨wr.heap.size, 1, none⟩ = some (.int .u64 N) := blk_cell (blk_kept k5 (fun e => absurd (show wr.heap.size = g from e) (by have := HG2.out; omega)) hbx.out); have n2 : w5.cell? ⟨wr.heap.size, 2, none⟩ = some (.string S) := blk_cell (blk_kept k5 (fun e => absurd (show wr.heap.size = g from e) (by have := HG2.out; omega)) hbx.out))
              all_goals
                go_wp2
                go_roundw
                case rel => exact ⟨j + 1, by omega, by go_num, r5, Same.rd (Kept.alloc HS2.out _).drew k5 HG.out⟩
                case measure => simp [intOf]; omega
            · have HN := hidden hN
              have HSz := hidden hSz
              have HSL : Hid (S.size < 18446744073709551616) := hidden (by omega)
              have e0 : opB 5 N S = vbytes S.size ++ S.data.toList := by simp [opB]
              rw [e0] at hR
              have HR := hidden (fun (W : World) (h : Rd g (⟨((vbytes S.size ++ S.data.toList) ++ putR (gB f) k (j + 1)).toArray⟩, 0) W) => bkT HSL.out h)
              have RD : Hid (Rd g (⟨((vbytes S.size ++ S.data.toList) ++ putR (gB f) k (j + 1)).toArray⟩, 0) (wr.alloc (.cells #[.int .i64 5, .int .u64 N, .string S] 28)).drew) := hidden (hR.kept ((Kept.refl (fun _ => False) _).alloc _).drew (fun h => h))
              have hbx : Hid ((wr.alloc (.cells #[.int .i64 5, .int .u64 N, .string S] 28)).drew.heap[wr.heap.size]? = some (.cells #[.int .i64 5, .int .u64 N, .string S] 28 (0, 0))) := hidden (blk_new wr _)
              clear hR e0 hgw hN hSz
              go_wp2
              go_region_with (go_at_call 19; refine (HR.out _ RD.out).mono ?_; rintro e w5 ⟨rfl, r5, k5⟩; have n1 : w5.cell? ⟨wr.heap.size, 1, none⟩ = some (.int .u64 N) := blk_cell (blk_kept k5 (fun e => absurd (show wr.heap.size = g from e) (by have := HG2.out; omega)) hbx.out); have n2 : w5.cell? ⟨wr.heap.size, 2, none⟩ = some (.string S) := blk_cell (blk_kept k5 (fun e => absurd (show wr.heap.size = g from e) (by have := HG2.out; omega)) hbx.out))
              all_goals
                go_wp2
                go_roundw
                case rel => exact ⟨j + 1, by omega, by go_num, r5, Same.rd (Kept.alloc HS2.out _).drew k5 HG.out⟩
                case measure => simp [intOf]; omega
            · have HN := hidden hN
              have HSz := hidden hSz
              have HSL : Hid (S.size < 18446744073709551616) := hidden (by omega)
              have e0 : opB 6 N S = S.data.toList := by simp [opB]
              rw [e0] at hR
              have HR := hidden (fun (W : World) (h : Rd g (⟨((S.data.toList) ++ putR (gB f) k (j + 1)).toArray⟩, 0) W) => bkR HSz.out h)
              have RD : Hid (Rd g (⟨((S.data.toList) ++ putR (gB f) k (j + 1)).toArray⟩, 0) (wr.alloc (.cells #[.int .i64 6, .int .u64 N, .string S] 28)).drew) := hidden (hR.kept ((Kept.refl (fun _ => False) _).alloc _).drew (fun h => h))
              have hbx : Hid ((wr.alloc (.cells #[.int .i64 6, .int .u64 N, .string S] 28)).drew.heap[wr.heap.size]? = some (.cells #[.int .i64 6, .int .u64 N, .string S] 28 (0, 0))) := hidden (blk_new wr _)
              clear hR e0 hgw hN
              go_wp2
              go_region_with (go_at_call 20; refine (HR.out _ RD.out).mono ?_; rintro e w5 ⟨rfl, r5, k5⟩; have n1 : w5.cell? ⟨wr.heap.size, 1, none⟩ = some (.int .u64 N) := blk_cell (blk_kept k5 (fun e => absurd (show wr.heap.size = g from e) (by have := HG2.out; omega)) hbx.out); have n2 : w5.cell? ⟨wr.heap.size, 2, none⟩ = some (.string S) := blk_cell (blk_kept k5 (fun e => absurd (show wr.heap.size = g from e) (by have := HG2.out; omega)) hbx.out))
              all_goals
                go_wp2
                go_roundw
                case rel => exact ⟨j + 1, by omega, by go_num, r5, Same.rd (Kept.alloc HS2.out _).drew k5 HG.out⟩
                case measure => simp [intOf]; omega
        · obtain rfl : j = k := by omega
          rw [putR_end] at hR
          have HR := hidden hR
          have HS2 := hidden hS2
          clear hR hS2
          go_wp2_with (first
            | (go_at_call 21; refine (rLeft HR.out).mono ?_; rintro e w5 ⟨rfl, rfl⟩)
            | (go_at_call 22; refine (rDone HR.out).mono ?_; rintro e w5 ⟨rfl, rfl⟩))
          go_returns
          exact ⟨rfl, HS2.out⟩
end Go.Proofs.YtilkpboegpfijaaDoor
namespace Go.Proofs.YtilkpboegpfijaaDoor.CodecBack
open Go.ChangeShapes Go.WideShapes Go.ChangeAt Go.RowKit Go.Joins Go.ChangeMaps
set_option maxRecDepth 100000 in
theorem contract (H : Type) (enc : TypeId × Value → H) (W : World) (base : Nat) (args : Array Value) (ds gs : List (DataW H)) (before : List MemPlace)
    (hval : ∀ (j : Nat) t v, Tryd.f4.params[j]? = some t → args[j]? = some v → Value.okWide Tryd.prog W .any base t v)
    (hW : DataW.Whole enc Tryd.prog Tryd.f4.params.toList Rows.codecBackSpec.vars false W args.toList ds gs before)
    (hsz : (DataW.weightsEach Tryd.prog (Tryd.f4.params.toList ++ (OpenSpec.ofChange Rows.codecBackSpec).bare.plain.varTypes Tryd.prog) (ds ++ gs)).all (· ≤ reachBytes) = true)
    (hL : laidMetH Tryd.prog Rows.codecBackRow.laid W) :
    Calls Tryd.prog 4 args W fun e W' => ∃ v, e = .returned v ∧ Rows.codecBackSpec.post enc Tryd.prog Tryd.f4 false true false false W args v W' := by
  have hW' := hW
  obtain ⟨p, q, hA0, hV, rfl, hfz, hnd⟩ := hW
  have hA : DataW.TrodAll enc Tryd.prog W 0 (fun _ => true) true Tryd.f4.params.toList args.toList ds p := hA0
  rw [Tryd.params4] at hA hval hsz
  obtain ⟨v0, vs0, d0, ds0, p0, q0, hargs, rfl, rfl, h0, r0⟩ := trodAll_cons hA
  obtain ⟨rfl, rfl, rfl⟩ := trodAll_nil r0
  obtain rfl : args = #[v0] := by cases args; simp_all
  obtain ⟨rfl, rfl⟩ := trodVars_none hV
  obtain ⟨n_do, f_do, in_do, sz_do⟩ := ops_open2 (hval 0 22 v0 rfl rfl) h0 _ _ 0 hsz rfl rfl
  refine (back_walk v0 n_do f_do W in_do sz_do (tab_laid hL)).mono fun e W' ⟨he, hg⟩ => ?_
  subst he
  exact ⟨_, rfl, law_post laidOut (by rw [Tryd.params4]; decide +kernel) rfl hW' rfl Tryd.underlying4 ⟨rfl, rfl, rfl⟩ (hg.below (Nat.le_refl _) fun _ h => h.elim)⟩
set_option maxRecDepth 100000 in
theorem lifted (os : Os) (started : os.Started) (H : Type) (enc : TypeId × Value → H) (F : Stop.Interp) :
    ReturnsInHanded {} Tryd.checked os 4 .any ((OpenSpec.ofChange Rows.codecBackSpec).preRow enc Tryd.prog Tryd.f4 Rows.codecBackRow.domain false Rows.codecBackRow.laid) (((OpenSpec.ofChange Rows.codecBackSpec).at F).post enc Tryd.prog Tryd.f4 false true false false) := by
  refine returnsInHanded_of_row (C := Tryd.checked) (s := OpenSpec.ofChange Rows.codecBackSpec) own started (by kernel_rfl) Tryd.func4
    (witness_row_at (enc := enc) (C := Tryd.checked) false ({ World.holding Tryd.prog os ⟨#[], #[], []⟩ with heap := (World.holding Tryd.prog os ⟨#[], #[], []⟩).heap.modify tabBlock fun | .cells _ t frozen => .cells (tabInts.map (Value.int .u32)).toArray t frozen | o => o }) #[.slice none 0 0] rfl (by kernel_rfl) (by kernel_rfl) (by kernel_rfl)
      (OpenSpec.preRow_of_cond (x := ([.nil], [], [])) 8 (by kernel_rfl) (by kernel_rfl) (fun k hk => by cases hk) (by kernel_rfl) (laidMet_of_run' 8 (by kernel_rfl) (by kernel_rfl)))) ?_
  intro W base args ds gs before hval hW _ _ hsz hL _ _
  exact contract H enc W base args ds gs before hval hW hsz hL
theorem said : Rows.CodecBackSaid :=
  OpenClaim.holds_of_cond 4 Tryd.f4 rfl rfl rfl rfl rfl rfl rfl ⟨rfl, rfl, rfl, rfl, rfl⟩ rfl rfl rfl rfl rfl (by kernel_rfl) Tryd.func4 (by kernel_rfl)
    (of_decide_eq_true (by kernel_rfl)) (by unfold Func.isWrapper; first | (rw [if_pos (by decide +kernel)]; kernel_rfl) | (rw [if_neg (by decide +kernel)]; exact ⟨rfl, rfl⟩))
    (fun os started H enc _ F => by rw [OpenClaim.pre_eq_preRow]; exact lifted os started H enc F)
theorem plain (f : FuncId) (fn : Func) (hf : Tryd.pinned.checked.prog.funcNamed Rows.codecBackRow.func = some f) (hfn : Tryd.pinned.checked.prog.funcs[f]? = some fn) :
    false = Tryd.pinned.checked.prog.looks [] ∧ ∀ (j : Nat) t, fn.params[j]? = some t → Tryd.pinned.checked.prog.wantsStandIn t = false := by
  obtain rfl : f = 4 := Option.some.inj ((show Tryd.prog.funcNamed Rows.codecBackRow.func = some 4 by kernel_rfl).symm.trans hf) |>.symm
  obtain rfl : fn = Tryd.f4 := (Option.some.inj (Tryd.func4.symm.trans hfn)).symm
  refine ⟨by kernel_rfl, fun j t ht => ?_⟩
  rw [Tryd.params4] at ht
  have hm : t ∈ [22] := by simpa using Array.mem_of_getElem? ht
  have hall : [22].all (fun t => !Tryd.prog.wantsStandIn t) = true := by kernel_rfl
  have h1 := List.all_eq_true.1 hall t hm
  have h2 : Tryd.prog.wantsStandIn t = false := by simpa using h1
  exact h2
theorem card : Rows.CodecBackCardSaid :=
  Claim7.holds_tied_plain_at .later [] _ _ _ _ said (fun _ h => by cases h) (by kernel_rfl) (fun _ h => by cases h) codecBack_row_tie rfl ⟨rfl, rfl⟩ (by kernel_rfl) rfl plain (by kernel_rfl)
end Go.Proofs.YtilkpboegpfijaaDoor.CodecBack
namespace Go.Proofs.YtilkpboegpfijaaDoor
theorem codecBack_card : Rows.CodecBackCardSaid := CodecBack.card
end Go.Proofs.YtilkpboegpfijaaDoor
