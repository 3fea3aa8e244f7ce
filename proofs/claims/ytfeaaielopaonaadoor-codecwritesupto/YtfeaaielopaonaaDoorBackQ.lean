/- What a step puts, and that it is read back. Of no program but the Reader's plain functions. -/
import Derived.Test.YtfeaaielopaonaaDoorWrOp
import Derived.Test.YtfeaaielopaonaaDoorVarP
import Derived.Test.YtfeaaielopaonaaDoorBeP
import Derived.Test.YtfeaaielopaonaaDoorRd3
namespace Go.Proofs.YtfeaaielopaonaaDoor
open Go.RowKit
set_option linter.unusedVariables false

/-- What a step puts where there is room. -/
def opB (kind : Int) (N : Nat) (S : ByteArray) : List UInt8 :=
  if kind = 0 then be 1 (N % 256) else if kind = 1 then be 2 (N % 65536) else if kind = 2 then be 4 (N % 4294967296) else if kind = 3 then be 8 N
  else if kind = 4 then vbytes N else if kind = 5 then vbytes S.size ++ S.data.toList else if kind = 6 then S.data.toList else []
theorem opB_len (kind : Int) (N : Nat) (S : ByteArray) (hN : N < 18446744073709551616) (hS : S.size < 18446744073709551616) : (opB kind N S).length ≤ S.size + 10 := by
  have h1 := vb10 N hN
  have h2 := vb10 S.size hS
  unfold opB
  split
  · rw [be_length]; omega
  · split
    · rw [be_length]; omega
    · split
      · rw [be_length]; omega
      · split
        · rw [be_length]; omega
        · split
          · omega
          · split
            · rw [List.length_append, size_list]; omega
            · split
              · rw [size_list]; omega
              · simp
theorem wput_fit {most : Int} {bs new : List UInt8} (h : (bs.length : Int) + new.length ≤ most) : wput most (bs, false) new = (bs ++ new, false) := by
  unfold wput
  rw [if_pos]
  simp only [wOk, Bool.not_false, Bool.true_and, decide_eq_true_eq]
  omega
theorem wop_fit {most : Int} {bs : List UInt8} (kind : Int) (N : Nat) (S : ByteArray) (h : (bs.length : Int) + (opB kind N S).length ≤ most) : wop most (bs, false) kind N S = (bs ++ opB kind N S, false) := by
  unfold wop
  unfold opB at h ⊢
  split
  · rename_i hk; rw [if_pos hk] at h; exact wput_fit h
  · rename_i hk0; rw [if_neg hk0] at h
    split
    · rename_i hk; rw [if_pos hk] at h; exact wput_fit h
    · rename_i hk1; rw [if_neg hk1] at h
      split
      · rename_i hk; rw [if_pos hk] at h; exact wput_fit h
      · rename_i hk2; rw [if_neg hk2] at h
        split
        · rename_i hk; rw [if_pos hk] at h; exact wput_fit h
        · rename_i hk3; rw [if_neg hk3] at h
          split
          · rename_i hk; rw [if_pos hk] at h; exact wput_fit h
          · rename_i hk4; rw [if_neg hk4] at h
            split
            · rename_i hk; rw [if_pos hk] at h
              rw [List.length_append] at h
              rw [wput_fit (by omega), wput_fit (by rw [List.length_append]; omega), List.append_assoc]
            · rename_i hk5; rw [if_neg hk5] at h
              split
              · rename_i hk; rw [if_pos hk] at h; exact wput_fit h
              · simp
/-- The first bytes of a text, taken. -/
theorem rtake_app (a b : List UInt8) : rtake (⟨(a ++ b).toArray⟩, 0) a.length = (⟨a.toArray⟩, (⟨b.toArray⟩, 0)) := by
  have hz : (⟨(a ++ b).toArray⟩ : ByteArray).size = a.length + b.length := by rw [← size_list]; simp
  unfold rtake
  rw [if_pos rfl, if_neg (by rw [hz]; omega)]
  have e1 : (⟨(a ++ b).toArray⟩ : ByteArray).extract 0 a.length = ⟨a.toArray⟩ := by
    apply ByteArray.ext
    apply Array.ext'
    rw [Lib.extract_data]
    simp
  have e2 : (⟨(a ++ b).toArray⟩ : ByteArray).extract a.length (⟨(a ++ b).toArray⟩ : ByteArray).size = ⟨b.toArray⟩ := by
    apply ByteArray.ext
    apply Array.ext'
    rw [Lib.extract_to_end]
    simp
  rw [e1, e2]
theorem back_num (s n : Nat) (h : n < 256 ^ s) (rest : List UInt8) : rnum (⟨(be s n ++ rest).toArray⟩, 0) s = n ∧ (rtake (⟨(be s n ++ rest).toArray⟩, 0) s).2 = (⟨rest.toArray⟩, 0) := by
  have h1 := rtake_app (be s n) rest
  rw [be_length] at h1
  unfold rnum
  rw [h1]
  refine ⟨?_, rfl⟩
  show num (⟨(be s n).toArray⟩ : ByteArray).data.toList = n
  rw [show (⟨(be s n).toArray⟩ : ByteArray).data.toList = be s n by simp, num_be']
  exact Nat.mod_eq_of_lt h
theorem back_raw (S : ByteArray) (rest : List UInt8) : rtake (⟨(S.data.toList ++ rest).toArray⟩, 0) S.size = (S, (⟨rest.toArray⟩, 0)) := by
  have h1 := rtake_app S.data.toList rest
  rw [size_list] at h1
  rw [h1]
theorem back_var (n : Nat) (h : n < 18446744073709551616) (rest : List UInt8) : rvar (⟨(vbytes n ++ rest).toArray⟩, 0) = (n, (⟨rest.toArray⟩, 0)) := by
  have e : (⟨(vbytes n ++ rest).toArray⟩ : ByteArray).data.toList = vbytes n ++ rest := by simp
  unfold rvar
  rw [if_pos rfl]
  show (if (fv 0 0 (⟨(vbytes n ++ rest).toArray⟩ : ByteArray).data.toList).2.2 = 0 then ((fv 0 0 (⟨(vbytes n ++ rest).toArray⟩ : ByteArray).data.toList).1, (rtake (⟨(vbytes n ++ rest).toArray⟩, 0) (fv 0 0 (⟨(vbytes n ++ rest).toArray⟩ : ByteArray).data.toList).2.1).2) else _) = _
  rw [e, fv_vbytes n rest h, if_pos rfl]
  show (n, (rtake (⟨(vbytes n ++ rest).toArray⟩, 0) (vbytes n).length).2) = _
  rw [rtake_app]
theorem back_text (S : ByteArray) (h : S.size < 18446744073709551616) (rest : List UInt8) : rtext (⟨(vbytes S.size ++ (S.data.toList ++ rest)).toArray⟩, 0) = (S, (⟨rest.toArray⟩, 0)) := by
  have hv := back_var S.size h (S.data.toList ++ rest)
  have hz : (⟨(S.data.toList ++ rest).toArray⟩ : ByteArray).size = S.size + rest.length := by rw [← size_list]; simp
  unfold rtext
  rw [hv]
  show (if (⟨(S.data.toList ++ rest).toArray⟩ : ByteArray).size < S.size then _ else rtake (⟨(S.data.toList ++ rest).toArray⟩, 0) S.size) = _
  rw [if_neg (by rw [hz]; omega), back_raw]
end Go.Proofs.YtfeaaielopaonaaDoor
