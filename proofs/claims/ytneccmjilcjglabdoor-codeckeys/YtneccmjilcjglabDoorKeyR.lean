/- The document's Key, walked. -/
import Derived.Test.YtneccmjilcjglabDoorKeyP
import Derived.Test.YtneccmjilcjglabDoorSplitP
namespace Go.Proofs.YtneccmjilcjglabDoor
open Go.RowKit
set_option linter.unusedVariables false

theorem app_list (a b : ByteArray) : (a ++ b).data.toList = a.data.toList ++ b.data.toList := by simp
theorem arr_list (l : List UInt8) : (⟨l.toArray⟩ : ByteArray).data.toList = l := by simp
theorem arr_size (l : List UInt8) : (⟨l.toArray⟩ : ByteArray).size = l.length := by rw [← size_list, arr_list]
set_option maxHeartbeats 400000 in
theorem refKey_many (p : Nat) (v : Value) (l : List Nat) (name : ByteArray) (w : World) (hv : Cells w v l) (h : 4 < l.length) (hl : l.length ≤ 140737488355328) :
    Calls Tryd.prog 34 #[.int .u8 p, v, .string name] w fun e w' => e = .returned (.tuple #[.string ⟨#[]⟩, .int .i64 1]) ∧ Same w w' := by
  obtain ⟨a, cap, rfl, _⟩ := hv
  go_enter Tryd.func34, Tryd.ntmps34
  go_wp2
  go_returns
  exact ⟨rfl, Kept.refl _ _⟩
theorem one_string (p : Nat) (hp : p < 256) (W : World) : (convert 22 9 (.slice (some ⟨W.heap.size, 0, none⟩) 1 1)).run Tryd.prog (W.alloc (.cells #[.int .u8 (p : Int)] 5)) = .ok (.string ⟨(be 1 p).toArray⟩) (W.alloc (.cells #[.int .u8 (p : Int)] 5)) := by
  have e : be 1 p = [UInt8.ofNat p] := by simp [be]
  rw [e]
  refine run_convert_bytes_back _ 22 9 5 ⟨W.heap.size, 0, none⟩ 1 [UInt8.ofNat p] Tryd.underlying22 Tryd.underlying5 Tryd.underlying9 ?_
  intro j hj
  have hadd : (⟨W.heap.size, 0, none⟩ : Addr).add j = ⟨W.heap.size, j, none⟩ := by unfold Addr.add; split <;> simp_all
  rw [hadd, blk_cell (blk_new W _)]
  match j, hj with
  | 0, _ =>
    have hb := byte_wrap p
    have e2 : IntKind.u8.wrap (p : Int) = (p : Int) := by rw [IntKind.wrap_u8']; omega
    rw [e2] at hb
    exact congrArg some hb
set_option maxHeartbeats 2000000 in
set_option maxRecDepth 100000 in
theorem refKey_in (p : Nat) (v : Value) (l : List Nat) (name : ByteArray) (w : World) (hp : p < 256) (hv : Cells w v l) (h : l.length ≤ 4) (hl : ∀ x ∈ l, x < 18446744073709551616) (hs : name.size ≤ 140737488351232) :
    Calls Tryd.prog 34 #[.int .u8 p, v, .string name] w fun e w' => e = .returned (.tuple #[.string ⟨(keyL p l name).toArray⟩, .int .i64 0]) ∧ Same w w' := by
  obtain ⟨a, cap, rfl, hc⟩ := hv
  have HC := hidden hc
  have HL := hidden hl
  clear hc hl
  have c1 := one_string p hp
  have hX0 : (⟨(be 1 p).toArray⟩ : ByteArray).data.toList = be 1 p ++ numsL (l.take 0) := by rw [arr_list]; simp [numsL]
  generalize (⟨(be 1 p).toArray⟩ : ByteArray) = X0 at c1 hX0
  have HX0 := hidden hX0
  clear hX0
  go_enter Tryd.func34, Tryd.ntmps34
  go_wp2
  go_loopw [8, 19] (fun x i wr => ∃ (k : Nat) (X : ByteArray), k ≤ l.length ∧ i = .int .i64 k ∧ x = .string X ∧ X.data.toList = be 1 p ++ numsL (l.take k) ∧ Same w wr) (fun _ i _ => l.length - (intOf i).toNat)
  case atStart => exact ⟨0, X0, Nat.zero_le _, rfl, rfl, HX0.out, (Kept.refl (fun _ => False) w).alloc _⟩
  case round =>
    obtain ⟨k, X, hk, rfl, rfl, hX, hS⟩ := hrel
    have hXl : X.size = 1 + 8 * k := by rw [← size_list, hX, List.length_append, be_length, numsL_len, List.length_take]; omega
    have HX := hidden hX
    clear hX
    by_cases hlt : k < l.length
    · have hne : l ≠ [] := by rintro rfl; simp at hlt
      obtain ⟨b, off, rfl, hc⟩ := HC.out hne
      have r1 : wr.cell? ⟨b, off + k, none⟩ = some (.int .u64 ((l.getD k 0 : Nat) : Int)) := Kept.cell hS (fun h => h) (hc k hlt)
      have hx : l.getD k 0 < 18446744073709551616 := HL.out _ (by rw [List.getD_eq_getElem?_getD, List.getElem?_eq_getElem hlt]; simp)
      have hn := fun w => refNumber (l.getD k 0) 8 w hx (by decide)
      have hY : X.data.toList ++ (⟨(be 8 (l.getD k 0)).toArray⟩ : ByteArray).data.toList = be 1 p ++ numsL (l.take (k + 1)) := by
        rw [arr_list, HX.out, take_snoc' l k hlt, numsL_snoc, List.append_assoc]
      have hYs : (⟨(be 8 (l.getD k 0)).toArray⟩ : ByteArray).size = 8 := by rw [arr_size, be_length]
      generalize (⟨(be 8 (l.getD k 0)).toArray⟩ : ByteArray) = Y at hn hY hYs
      have hadd : ∀ W : World, (Op.stringOp .add X Y).run Tryd.prog W = .ok (.string (X ++ Y)) W := fun W => run_string_add_sum W X Y (by omega)
      have HN := hidden hn
      have HY : Hid ((X ++ Y).data.toList = be 1 p ++ numsL (l.take (k + 1))) := hidden (by rw [app_list]; exact hY)
      clear hc hne hx hn hY hYs hXl
      generalize X ++ Y = Z at hadd HY
      generalize l.getD k 0 = x at r1 HN
      go_wp2_with (go_at_call 48; refine (HN.out _).mono ?_; rintro e w3 ⟨rfl, k3⟩)
      go_roundw
      case rel => exact ⟨k + 1, Z, by omega, by go_num, rfl, HY.out, Kept.trans hS k3⟩
      case measure => simp [intOf]; omega
    · obtain rfl : k = l.length := by omega
      have hadd : ∀ W : World, (Op.stringOp .add X name).run Tryd.prog W = .ok (.string (X ++ name)) W := fun W => run_string_add_sum W X name (by omega)
      have hZ : X ++ name = ⟨(keyL p l name).toArray⟩ := by
        apply ba_ext
        rw [app_list, arr_list, HX.out, List.take_length]
        rfl
      have HZ := hidden hZ
      clear hZ
      generalize X ++ name = Z at hadd HZ
      go_wp2
      go_returns
      rw [← HZ.out]
      exact ⟨rfl, hS⟩
end Go.Proofs.YtneccmjilcjglabDoor
