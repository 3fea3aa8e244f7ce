/- codec.Unframe and the document's, walked. -/
import Derived.Test.YtilkpboegpfijaaDoorSplit2
import Derived.Test.YtilkpboegpfijaaDoorCrc
import Derived.BigQuiet
import Derived.Deep.QuietTactic
namespace Go.Proofs.YtilkpboegpfijaaDoor
open Go.RowKit
set_option linter.unusedVariables false

/-- The frame's length, as its head tells it. -/
def flen (s : ByteArray) : Nat := num ((s.data.toList.drop 4).take 4)
/-- What Unframe tells. -/
def unf (s : ByteArray) : Nat × ByteArray × Nat × Int :=
  if s.size < 8 then (0, ⟨#[]⟩, 0, 20)
  else if ((s.extract 0 2).toList == [68, 70]) = false ∨ num ((s.data.toList.drop 3).take 1) ≠ 0 ∨ 1048576 < flen s then (0, ⟨#[]⟩, 0, 21)
  else if s.size < 12 + flen s then (0, ⟨#[]⟩, 0, 20)
  else if num ((s.data.toList.drop (8 + flen s)).take 4) ≠ crc (s.data.toList.take (8 + flen s)) then (0, ⟨#[]⟩, 0, 23)
  else (num ((s.data.toList.drop 2).take 1), s.extract 8 (8 + flen s), 12 + flen s, 0)
theorem rtake_at (s : ByteArray) (a n : Nat) (h : a + n ≤ s.size) : rtake (s.extract a s.size, 0) n = (s.extract a (a + n), (s.extract (a + n) s.size, 0)) := by
  have hz := extract_size s a
  unfold rtake
  rw [if_pos rfl, if_neg (by simp only [hz]; omega)]
  simp only
  rw [extract_extract]
  congr 1
  apply ba_ext
  rw [Lib.extract_data, Lib.extract_to_end, Lib.extract_data, show a + n - a = n by omega]
  rfl
theorem rtake_past (s : ByteArray) (a n : Nat) (h : s.size < a + n) : rtake (s.extract a s.size, 0) n = (⟨#[]⟩, (⟨#[]⟩, 20)) ∨ n = 0 := by
  by_cases hn : n = 0
  · exact Or.inr hn
  · left
    have hz := extract_size s a
    unfold rtake
    rw [if_pos rfl, if_pos (by simp only [hz]; omega)]
theorem rnum_at (s : ByteArray) (a n : Nat) (h : a + n ≤ s.size) : rnum (s.extract a s.size, 0) n = num ((s.data.toList.drop a).take n) := by
  unfold rnum
  rw [rtake_at s a n h, Lib.extract_data, show a + n - a = n by omega]
theorem take_at {g a : Nat} {s : ByteArray} {w : World} (n : Nat) (h : Rd g (s.extract a s.size, 0) w) (hn : a + n ≤ s.size) (hs : s.size ≤ 281474976710656) : Calls Tryd.prog 47 #[.pointer (some ⟨g, 0, none⟩), .int .i64 n] w fun x w' => x = .returned (.string (s.extract a (a + n))) ∧ Rd g (s.extract (a + n) s.size, 0) w' ∧ Kept (only g) w w' := by
  have k := take_any h n (by omega)
  rw [rtake_at s a n hn] at k
  exact k
theorem u8_at {g a : Nat} {s : ByteArray} {w : World} (h : Rd g (s.extract a s.size, 0) w) (hn : a + 1 ≤ s.size) : Calls Tryd.prog 14 #[.pointer (some ⟨g, 0, none⟩)] w fun x w' => x = .returned (.int .u8 (num ((s.data.toList.drop a).take 1) : Nat)) ∧ Rd g (s.extract (a + 1) s.size, 0) w' ∧ Kept (only g) w w' := by
  have k := rU8 h
  rw [rtake_at s a 1 hn, rnum_at s a 1 hn] at k
  exact k
theorem u32_at {g a : Nat} {s : ByteArray} {w : World} (h : Rd g (s.extract a s.size, 0) w) (hn : a + 4 ≤ s.size) : Calls Tryd.prog 16 #[.pointer (some ⟨g, 0, none⟩)] w fun x w' => x = .returned (.int .u32 (num ((s.data.toList.drop a).take 4) : Nat)) ∧ Rd g (s.extract (a + 4) s.size, 0) w' ∧ Kept (only g) w w' := by
  have k := rU32 h
  rw [rtake_at s a 4 hn, rnum_at s a 4 hn] at k
  exact k
theorem num4_lt (l : List UInt8) : num (l.take 4) < 4294967296 := by
  have h1 := num_lt (l.take 4)
  have h2 : (l.take 4).length ≤ 4 := by rw [List.length_take]; omega
  exact Nat.lt_of_lt_of_le h1 (Nat.le_trans (Nat.pow_le_pow_right (by decide) h2) (by decide))
/-- Behind a head that is whole: the body, the sum, the fault. -/
theorem tail_at {g : Nat} {s : ByteArray} {w : World} (n : Nat) (h : Rd g (s.extract 8 s.size, 0) w) (hs : s.size ≤ 281474976710656) (hn : n ≤ 1048576) :
    ∃ (b : ByteArray) (st : RSt), (Calls Tryd.prog 20 #[.pointer (some ⟨g, 0, none⟩), .int .i64 n] w fun x w' => x = .returned (.string b) ∧ Rd g st w' ∧ Kept (only g) w w') ∧
      (8 + n ≤ s.size → b = s.extract 8 (8 + n) ∧ st = (s.extract (8 + n) s.size, 0)) ∧ (s.size < 12 + n → (rtake st 4).2.2 = 20) := by
  have k := rRaw h (n : Int) (by omega)
  have e : rraw (s.extract 8 s.size, 0) (n : Int) = rtake (s.extract 8 s.size, 0) n := by simp only [rraw, if_neg (show ¬ (n : Int) < 0 by omega), Int.toNat_natCast]
  rw [e] at k
  refine ⟨_, _, k, fun hh => ?_, fun hh => ?_⟩
  · rw [rtake_at s 8 n hh]
    exact ⟨rfl, rfl⟩
  · by_cases h8 : 8 + n ≤ s.size
    · rw [rtake_at s 8 n h8]
      rcases rtake_past s (8 + n) 4 (by omega) with q | q
      · simp only [q]
      · omega
    · rcases rtake_past s 8 n (by omega) with q | q
      · rw [q, rtake_bad ⟨#[]⟩ 20 4 (by decide)]
      · subst q
        have hz := extract_size s 8
        have hz0 : rtake (s.extract 8 s.size, 0) 0 = ((s.extract 8 s.size).extract 0 0, ((s.extract 8 s.size).extract 0 (s.extract 8 s.size).size, 0)) := by
          unfold rtake
          rw [if_pos rfl, if_neg (by omega)]
        rw [hz0, extract_all]
        rcases rtake_past s 8 4 (by omega) with q | q
        · simp only [q]
        · omega
end Go.Proofs.YtilkpboegpfijaaDoor
