/- The document's ReadVarint and the Reader's: the same number, of no program. -/
import Derived.Test.YtlilgfcacoooaaaDoorRd2
namespace Go.Proofs.YtlilgfcacoooaaaDoor

/-- The number that groups of seven bits are, the lowest first. -/
def gs : List UInt8 → Nat
  | [] => 0
  | b :: l => b.toNat % 128 + 128 * gs l
theorem gs_snoc (l : List UInt8) (b : UInt8) : gs (l ++ [b]) = gs l + b.toNat % 128 * 128 ^ l.length := by
  induction l with
  | nil => simp [gs]
  | cons a l ih =>
    rw [List.cons_append, gs, ih, gs, List.length_cons, Nat.pow_succ, Nat.mul_add, Nat.mul_comm (128 ^ l.length) 128, Nat.mul_left_comm]
    omega
theorem gs_take (s : ByteArray) (k : Nat) (h : k < s.size) : gs (s.data.toList.take (k + 1)) = gs (s.data.toList.take k) + s[k].toNat % 128 * 128 ^ k := by
  rw [List.take_succ_eq_append_getElem (by rw [size_list]; exact h), gs_snoc, List.length_take, Nat.min_eq_left (by rw [size_list]; exact Nat.le_of_lt h)]
  rfl
theorem gs_drop_le (l : List UInt8) : ∀ j, gs (l.drop j) ≤ gs l := by
  induction l with
  | nil => intro j; simp
  | cons b l ih =>
    intro j
    cases j with
    | zero => simp
    | succ j =>
      have := ih j
      simp only [List.drop_succ_cons, gs]
      omega
/-- The j-th group ahead of those behind it. -/
theorem gs_step (s : ByteArray) (i j : Nat) (hi : i < s.size) (hj : j ≤ i) : gs ((s.data.toList.take (i + 1)).drop j) = s[j].toNat % 128 + 128 * gs ((s.data.toList.take (i + 1)).drop (j + 1)) := by
  have hl : j < (s.data.toList.take (i + 1)).length := by rw [List.length_take, size_list]; omega
  rw [List.drop_eq_getElem_cons hl, gs, List.getElem_take]
  rfl
theorem gs_none (s : ByteArray) (i : Nat) : gs ((s.data.toList.take (i + 1)).drop (i + 1)) = 0 := by
  rw [List.drop_of_length_le (by rw [List.length_take]; omega)]
  rfl
theorem gs_lt (l : List UInt8) : gs l < 128 ^ l.length := by
  induction l with
  | nil => decide
  | cons b l ih =>
    rw [gs, List.length_cons, Nat.pow_succ]
    omega
end Go.Proofs.YtlilgfcacoooaaaDoor
