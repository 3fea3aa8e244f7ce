/- The parts of a key, of no program. -/
import Derived.Test.YtilkpboegpfijaaDoorBase
import Derived.Test.YtilkpboegpfijaaDoorRPure
import Derived.Lib.Strings
import Derived.Lib.IndexBytes
namespace Go.Proofs.YtilkpboegpfijaaDoor

/-- The next j numbers of eight bytes, and the Reader behind them. -/
def nsplit : Nat → RSt → List Nat × RSt
  | 0, st => ([], st)
  | j + 1, st => ((nsplit j st).1 ++ [rnum (nsplit j st).2 8], (rtake (nsplit j st).2 8).2)
theorem nsplit_len (j : Nat) (st : RSt) : (nsplit j st).1.length = j := by
  induction j with
  | zero => rfl
  | succ j ih => simp [nsplit, ih]
theorem ba_ext {a b : ByteArray} (h : a.data.toList = b.data.toList) : a = b := ByteArray.ext (Array.ext' h)
theorem extract_extract (s : ByteArray) (a n : Nat) : (s.extract a s.size).extract n (s.extract a s.size).size = s.extract (a + n) s.size := by
  apply ba_ext
  rw [Lib.extract_to_end, Lib.extract_to_end, Lib.extract_to_end, List.drop_drop]
theorem extract_all (s : ByteArray) : s.extract 0 s.size = s := by
  apply ba_ext
  rw [Lib.extract_to_end]
  rfl
theorem extract_size (s : ByteArray) (a : Nat) : (s.extract a s.size).size = s.size - a := by simp
/-- The numbers of a key. -/
def knums (l : List UInt8) (j : Nat) : List Nat := (List.range j).map fun i => num ((l.drop (1 + 8 * i)).take 8)
theorem knums_succ (l : List UInt8) (j : Nat) : knums l (j + 1) = knums l j ++ [num ((l.drop (1 + 8 * j)).take 8)] := by simp [knums, List.range_succ]
theorem knums_len (l : List UInt8) (j : Nat) : (knums l j).length = j := by simp [knums]
theorem rtake_one (key : ByteArray) (h : 1 ≤ key.size) : rtake (key, 0) 1 = (key.extract 0 1, (key.extract 1 key.size, 0)) := by
  unfold rtake
  rw [if_pos rfl, if_neg (show ¬ key.size < 1 by omega)]
theorem nsplit_ok (key : ByteArray) : ∀ j, 1 + 8 * j ≤ key.size → nsplit j (key.extract 1 key.size, 0) = (knums key.data.toList j, (key.extract (1 + 8 * j) key.size, 0)) := by
  intro j
  induction j with
  | zero => intro _; rfl
  | succ j ih =>
    intro h
    have e := ih (by omega)
    have hz := extract_size key (1 + 8 * j)
    have ht : rtake (key.extract (1 + 8 * j) key.size, 0) 8 = ((key.extract (1 + 8 * j) key.size).extract 0 8, (key.extract (1 + 8 * (j + 1)) key.size, 0)) := by
      unfold rtake
      rw [if_pos rfl, if_neg (by simp only [hz]; omega)]
      simp only
      rw [extract_extract, show 1 + 8 * j + 8 = 1 + 8 * (j + 1) by omega]
    rw [nsplit, e, knums_succ]
    unfold rnum
    rw [ht]
    simp only [Prod.mk.injEq, List.append_cancel_left_eq, List.cons.injEq, and_true]
    rw [Lib.extract_data, Lib.extract_to_end]
    rfl
theorem rtake_bad (s : ByteArray) (f : Int) (n : Nat) (hf : f ≠ 0) : rtake (s, f) n = (⟨#[]⟩, (s, f)) := by simp [rtake, hf]
theorem nsplit_short (key : ByteArray) : ∀ j, key.size < 1 + 8 * j → (nsplit j (rtake (key, 0) 1).2).2 = (⟨#[]⟩, 20) := by
  intro j
  induction j with
  | zero =>
    intro h
    simp only [nsplit, rtake, if_pos, if_pos (show key.size < 1 by omega)]
  | succ j ih =>
    intro h
    rw [nsplit]
    show (rtake (nsplit j (rtake (key, 0) 1).2).2 8).2 = _
    by_cases hs : key.size < 1 + 8 * j
    · rw [ih hs, rtake_bad ⟨#[]⟩ 20 8 (by decide)]
    · rw [rtake_one key (by omega), nsplit_ok key j (by omega)]
      have hz := extract_size key (1 + 8 * j)
      unfold rtake
      rw [if_pos rfl, if_pos (by simp only [hz]; omega)]
/-- What Split tells, the number being from 0 to 4. -/
def spl (key : ByteArray) (k : Nat) : Nat × List Nat × ByteArray × Int :=
  if key.size < 1 + 8 * k then (0, [], ⟨#[]⟩, 20) else (num (key.data.toList.take 1), knums key.data.toList k, key.extract (1 + 8 * k) key.size, 0)
end Go.Proofs.YtilkpboegpfijaaDoor
