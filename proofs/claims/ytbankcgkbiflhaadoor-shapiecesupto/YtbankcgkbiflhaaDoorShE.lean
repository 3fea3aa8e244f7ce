/- Sums held against each other. -/
import Derived.Test.YtbankcgkbiflhaaDoorSh8
import Derived.DeepKeys
namespace Go.Proofs.YtbankcgkbiflhaaDoor
open Go.RowKit
set_option linter.unusedVariables false

theorem cells5 : Tryd.prog.cellsOf 5 = 1 := by kernel_rfl
theorem part_at (l : List UInt8) (w : World) (i : Nat) (h : i < l.length) : (part 5 (l.map U8).toArray (i * 1)).run Tryd.prog w = .ok (.int .u8 ((l.getD i 0).toNat : Nat)) w := by
  have hagg : (isAgg 5).run Tryd.prog w = .ok false w := by
    unfold isAgg
    rw [Sem.run_bind, run_underlying Tryd.underlying5 w]
    rfl
  have hc := bytes_at l i h
  unfold part
  simp only [Sem.run_bind, hagg, Result.andThen_ok, Nat.mul_one, hc]
  rfl
theorem items_self (l : List UInt8) (d : Nat) (w : World) : ∀ is : List Nat, (∀ i ∈ is, i < l.length) → (Op.eqItems (d + 1) 5 1 (l.map U8).toArray (l.map U8).toArray is).run Tryd.prog w = .ok true w
  | [], _ => by simp [Op.eqItems]
  | i :: is, h => by
    have ih := items_self l d w is (fun j hj => h j (List.mem_cons_of_mem _ hj))
    have hp := part_at l w i (h i (List.mem_cons_self ..))
    have he := run_equalIn_int (P := Tryd.prog) (w := w) d 5 .u8 .u8 ((l.getD i 0).toNat : Nat) ((l.getD i 0).toNat : Nat) Tryd.underlying5
    simp only [Op.eqItems, Sem.run_bind, hp, he, Result.andThen_ok, beq_self_eq_true, Bool.not_true, Bool.false_eq_true, if_false, ih]
theorem sum_eqIn (l : List UInt8) (hl : l.length = 32) (w : World) : (Op.equalIn 10000 24 (.agg (l.map U8).toArray) (.agg (l.map U8).toArray)).run Tryd.prog w = .ok true w := by
  obtain ⟨i, hi, _⟩ : ∃ i, Tryd.prog.info? 5 = some i ∧ True := by
    obtain ⟨i0, hi, _⟩ := info_parts info5
    exact ⟨i0, hi, trivial⟩
  have h := run_equalIn_array (P := Tryd.prog) w 9999 (l.map U8).toArray (l.map U8).toArray Tryd.underlying24 hi
  rw [cells5, items_self l 9998 w _ (fun i hi => by rw [List.mem_range] at hi; omega)] at h
  exact h
theorem sum_eq (l : List UInt8) (hl : l.length = 32) (w : World) : (binOp .eql 24 (.agg (l.map U8).toArray) (.agg (l.map U8).toArray)).run Tryd.prog w = .ok (.bool true) w := by
  obtain ⟨i, hi, _⟩ : ∃ i, Tryd.prog.info? 5 = some i ∧ True := by
    obtain ⟨i0, hi, _⟩ := info_parts info5
    exact ⟨i0, hi, trivial⟩
  have h := run_equalIn_array (P := Tryd.prog) w 9999 (l.map U8).toArray (l.map U8).toArray Tryd.underlying24 hi
  rw [cells5, items_self l 9998 w _ (fun i hi => by rw [List.mem_range] at hi; omega)] at h
  have e : binOp .eql 24 (.agg (l.map U8).toArray) (.agg (l.map U8).toArray) = (do pure (.bool (← Op.equalIn (9999 + 1) 24 (.agg (l.map U8).toArray) (.agg (l.map U8).toArray)))) := rfl
  rw [e, Sem.run_bind, h]
  rfl
theorem eqGuard_sum (l m : List UInt8) (x y : Operand) (w : World) : (eqGuard .eql 24 x y (.agg (l.map U8).toArray) (.agg (m.map U8).toArray)).run Tryd.prog w = .ok () w := by
  have hg : Tryd.prog.eqGuardType Tryd.prog.depth 24 = false := by kernel_rfl
  unfold eqGuard
  simp [hg]
end Go.Proofs.YtbankcgkbiflhaaDoor
