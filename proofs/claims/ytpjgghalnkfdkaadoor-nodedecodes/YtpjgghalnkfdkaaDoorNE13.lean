/- node: readEntries; a head held against another. -/
import Derived.Test.YtpjgghalnkfdkaaDoorNE12
import Derived.DeepKeys
namespace Go.Proofs.YtpjgghalnkfdkaaDoor
open Go.RowKit
set_option linter.unusedVariables false
set_option linter.unusedSimpArgs false
theorem readEntries_any (lf : Bool) (c : Nat) (s : List UInt8) (w : World) (hs : s.length ≤ 4096) (hc : c < 65536) :
    Calls Tryd.prog 44 #[.bool lf, .int .i64 c, .string ⟨s.toArray⟩] w fun e w' => ∃ u, e = .returned u ∧ REq lf c s w u w' := by
  cases lf
  · exact readInner c s w hs hc
  · exact readLeaf c s w hs hc
def hd9 (a0 a1 a2 a3 a4 a5 a6 a7 a8 : Int) : Array Value := #[.int .u8 a0, .int .u8 a1, .int .u8 a2, .int .u8 a3, .int .u8 a4, .int .u8 a5, .int .u16 a6, .int .u32 a7, .int .u32 a8]
theorem cells5N : Tryd.prog.cellsOf 5 = 1 := by kernel_rfl
theorem mark_eq (W : World) (a0 a1 a2 a3 b0 b1 b2 b3 : Int) :
    (Op.equalIn 9999 58 (.agg #[.int .u8 a0, .int .u8 a1, .int .u8 a2, .int .u8 a3]) (.agg #[.int .u8 b0, .int .u8 b1, .int .u8 b2, .int .u8 b3])).run Tryd.prog W = .ok (decide (a0 = b0 ∧ a1 = b1 ∧ a2 = b2 ∧ a3 = b3)) W := by
  obtain ⟨i0, hi, hz0, hz1, hz2⟩ := info_parts info5
  have h := run_equalIn_array (P := Tryd.prog) W 9998 #[.int .u8 a0, .int .u8 a1, .int .u8 a2, .int .u8 a3] #[.int .u8 b0, .int .u8 b1, .int .u8 b2, .int .u8 b3] Tryd.underlying58 hi
  rw [h, cells5N, show List.range 4 = [0, 1, 2, 3] from rfl]
  simp [Op.eqItems, go_sem]
  by_cases h1 : a0 = b0 <;> by_cases h2 : a1 = b1 <;> by_cases h3 : a2 = b2 <;> by_cases h4 : a3 = b3 <;> simp [h1, h2, h3, h4]
theorem head_eq (W : World) (a0 a1 a2 a3 a4 a5 a6 a7 a8 b0 b1 b2 b3 b4 b5 b6 b7 b8 : Int) :
    (Op.equalIn 10000 62 (.agg (hd9 a0 a1 a2 a3 a4 a5 a6 a7 a8)) (.agg (hd9 b0 b1 b2 b3 b4 b5 b6 b7 b8))).run Tryd.prog W = .ok (decide ((a0 = b0 ∧ a1 = b1 ∧ a2 = b2 ∧ a3 = b3) ∧ a4 = b4 ∧ a5 = b5 ∧ a6 = b6 ∧ a7 = b7 ∧ a8 = b8)) W := by
  rw [run_equalIn_struct W 9999 62 _ _ (by kernel_rfl) (by kernel_rfl)]
  simp [Program.fieldsOf, Tryd.underlying62, Op.eqFields, go_sem, hd9]
  rw [mark_eq, Result.andThen_ok]
  by_cases hm : a0 = b0 ∧ a1 = b1 ∧ a2 = b2 ∧ a3 = b3
  rotate_left
  · simp [hm]
  rw [decide_eq_true hm]
  simp only [hm, and_self, decide_true, Bool.true_and, Bool.true_eq_false, if_false]
  by_cases h4 : a4 = b4
  rotate_left
  · simp [h4]
  by_cases h5 : a5 = b5
  rotate_left
  · simp [h4, h5]
  by_cases h6 : a6 = b6
  rotate_left
  · simp [h4, h5, h6]
  by_cases h7 : a7 = b7
  rotate_left
  · simp [h4, h5, h6, h7]
  by_cases h8 : a8 = b8 <;> simp [h4, h5, h6, h7, h8]
theorem be_byte (x : UInt8) (k : Nat) (hk : k < 256) (h : x.toNat = k) : be 1 k = [x] := by rw [← h]; exact be1_toNat x
/-- A head's bytes are these, or one of the nine parts is another. -/
theorem head_iff (s : List UInt8) (hs : s.length = 16) (kd ks n c : Nat) (hkd : kd < 256) (hks : ks < 65536) (hn : n < 4294967296) (hc : c < 4294967296) :
    ((((s.getD 0 0).toNat : Int) = 68 ∧ ((s.getD 1 0).toNat : Int) = 78 ∧ ((s.getD 2 0).toNat : Int) = 79 ∧ ((s.getD 3 0).toNat : Int) = 68) ∧ ((s.getD 4 0).toNat : Int) = (kd : Int) ∧ ((s.getD 5 0).toNat : Int) = 0 ∧ ((num ((s.drop 6).take 2) : Nat) : Int) = (ks : Int) ∧ ((num ((s.drop 8).take 4) : Nat) : Int) = (n : Int) ∧ ((num ((s.drop 12).take 4) : Nat) : Int) = (c : Int)) ↔ s = headB kd ks n c := by
  have hform : headB kd ks n c = hd4 ++ (be 1 kd ++ (be 1 0 ++ (be 2 ks ++ (be 4 n ++ be 4 c)))) := by
    unfold headB
    simp only [List.append_assoc]
  match s, hs with
  | [x0, x1, x2, x3, x4, x5, x6, x7, x8, x9, x10, x11, x12, x13, x14, x15], _ =>
    have q6 : ([x0, x1, x2, x3, x4, x5, x6, x7, x8, x9, x10, x11, x12, x13, x14, x15].drop 6).take 2 = [x6, x7] := rfl
    have q8 : ([x0, x1, x2, x3, x4, x5, x6, x7, x8, x9, x10, x11, x12, x13, x14, x15].drop 8).take 4 = [x8, x9, x10, x11] := rfl
    have q12 : ([x0, x1, x2, x3, x4, x5, x6, x7, x8, x9, x10, x11, x12, x13, x14, x15].drop 12).take 4 = [x12, x13, x14, x15] := rfl
    rw [q6, q8, q12, hform]
    constructor
    · rintro ⟨⟨e0, e1, e2, e3⟩, e4, e5, e6, e8, e12⟩
      have f0 : x0 = 68 := by apply UInt8.toNat_inj.1; have e0 : ((x0.toNat : Nat) : Int) = 68 := e0; show x0.toNat = 68; omega
      have f1 : x1 = 78 := by apply UInt8.toNat_inj.1; have e0 : ((x1.toNat : Nat) : Int) = 78 := e1; show x1.toNat = 78; omega
      have f2 : x2 = 79 := by apply UInt8.toNat_inj.1; have e0 : ((x2.toNat : Nat) : Int) = 79 := e2; show x2.toNat = 79; omega
      have f3 : x3 = 68 := by apply UInt8.toNat_inj.1; have e0 : ((x3.toNat : Nat) : Int) = 68 := e3; show x3.toNat = 68; omega
      have f4 : be 1 kd = [x4] := be_byte x4 kd hkd (by have e0 : ((x4.toNat : Nat) : Int) = kd := e4; omega)
      have f5 : be 1 0 = [x5] := be_byte x5 0 (by decide) (by have e0 : ((x5.toNat : Nat) : Int) = 0 := e5; omega)
      have f6 : be 2 ks = [x6, x7] := by rw [← Int.ofNat.inj e6]; exact be_numN 2 _ rfl
      have f8 : be 4 n = [x8, x9, x10, x11] := by rw [← Int.ofNat.inj e8]; exact be_numN 4 _ rfl
      have f12 : be 4 c = [x12, x13, x14, x15] := by rw [← Int.ofNat.inj e12]; exact be_numN 4 _ rfl
      rw [f4, f5, f6, f8, f12, f0, f1, f2, f3]
      rfl
    · intro h
      have hh : [x0, x1, x2, x3] ++ ([x4] ++ ([x5] ++ ([x6, x7] ++ ([x8, x9, x10, x11] ++ [x12, x13, x14, x15])))) = hd4 ++ (be 1 kd ++ (be 1 0 ++ (be 2 ks ++ (be 4 n ++ be 4 c)))) := h
      obtain ⟨g0, hh⟩ := List.append_inj hh rfl
      obtain ⟨g4, hh⟩ := List.append_inj hh (by rw [be_length]; rfl)
      obtain ⟨g5, hh⟩ := List.append_inj hh (by rw [be_length]; rfl)
      obtain ⟨g6, hh⟩ := List.append_inj hh (by rw [be_length]; rfl)
      obtain ⟨g8, g12⟩ := List.append_inj hh (by rw [be_length]; rfl)
      simp only [hd4, List.cons.injEq, and_true] at g0
      obtain ⟨rfl, rfl, rfl, rfl⟩ := g0
      have n4 : x4.toNat = kd := by rw [← num_one x4, g4, num_be'] <;> omega
      have n5 : x5.toNat = 0 := by rw [← num_one x5, g5, num_be'] <;> omega
      have n6 : num [x6, x7] = ks := by rw [g6, num_be'] <;> omega
      have n8 : num [x8, x9, x10, x11] = n := by rw [g8, num_be'] <;> omega
      have n12 : num [x12, x13, x14, x15] = c := by rw [g12, num_be'] <;> omega
      refine ⟨⟨rfl, rfl, rfl, rfl⟩, ?_, ?_, ?_, ?_, ?_⟩
      · show ((x4.toNat : Nat) : Int) = kd; omega
      · show ((x5.toNat : Nat) : Int) = 0; omega
      · omega
      · omega
      · omega
end Go.Proofs.YtpjgghalnkfdkaaDoor
