/- node: slices.Concat of two and of three; what Join gives. (Made by mkn48.py.) -/
import Derived.Test.YtpjgghalnkfdkaaDoorN45
import Derived.Test.YtpjgghalnkfdkaaDoorN42
namespace Go.Proofs.YtpjgghalnkfdkaaDoor
open Go.RowKit
set_option linter.unusedVariables false
set_option linter.unusedSimpArgs false
theorem concat2S (L0 L1 : List ByteArray) (b : Nat) (t : TypeId) (A0 A1 : Option Addr) (n0 n1 C0 C1 : Nat) (w : World) (hb : w.heap[b]? = some (.cells #[.slice A0 n0 C0, .slice A1 n1 C1] t (0, 0))) (h0 : L0.length = n0) (h1 : L1.length = n1) (r0 : Row w (.slice A0 n0 C0) (TS L0)) (r1 : Row w (.slice A1 n1 C1) (TS L1)) (hN : (n0 + n1) * 16 ≤ 140737488355328) :
    Calls Tryd.prog 55 #[.slice (some ⟨b, 0, none⟩) 2 2] w fun e w' => ∃ u, e = .returned u ∧ ClS (L0 ++ L1) w u w' := by
  subst h0 h1
  have h := concatS [L0, L1] b (fun j => match j with | 0 => A0 | _ => A1) (fun j => match j with | 0 => C0 | _ => C1) 2 w rfl (by omega) (fun j hj => by
    match j, hj with
    | 0, _ => exact ⟨(blk_cell (j := 0) hb).trans rfl, r0⟩
    | 1, _ => exact ⟨(blk_cell (j := 1) hb).trans rfl, r1⟩
    | q + 2, hq => simp at hq; omega) (by simp; omega)
  rw [show [L0, L1].flatten = L0 ++ L1 by simp] at h
  refine h.mono ?_
  rintro e w' ⟨u, rfl, a', c', rfl, ho, k⟩
  exact ⟨_, rfl, ⟨a', c', rfl, ho, k⟩⟩
theorem concat3S (L0 L1 L2 : List ByteArray) (b : Nat) (t : TypeId) (A0 A1 A2 : Option Addr) (n0 n1 n2 C0 C1 C2 : Nat) (w : World) (hb : w.heap[b]? = some (.cells #[.slice A0 n0 C0, .slice A1 n1 C1, .slice A2 n2 C2] t (0, 0))) (h0 : L0.length = n0) (h1 : L1.length = n1) (h2 : L2.length = n2) (r0 : Row w (.slice A0 n0 C0) (TS L0)) (r1 : Row w (.slice A1 n1 C1) (TS L1)) (r2 : Row w (.slice A2 n2 C2) (TS L2)) (hN : (n0 + n1 + n2) * 16 ≤ 140737488355328) :
    Calls Tryd.prog 55 #[.slice (some ⟨b, 0, none⟩) 3 3] w fun e w' => ∃ u, e = .returned u ∧ ClS (L0 ++ L1 ++ L2) w u w' := by
  subst h0 h1 h2
  have h := concatS [L0, L1, L2] b (fun j => match j with | 0 => A0 | 1 => A1 | _ => A2) (fun j => match j with | 0 => C0 | 1 => C1 | _ => C2) 3 w rfl (by omega) (fun j hj => by
    match j, hj with
    | 0, _ => exact ⟨(blk_cell (j := 0) hb).trans rfl, r0⟩
    | 1, _ => exact ⟨(blk_cell (j := 1) hb).trans rfl, r1⟩
    | 2, _ => exact ⟨(blk_cell (j := 2) hb).trans rfl, r2⟩
    | q + 3, hq => simp at hq; omega) (by simp; omega)
  rw [show [L0, L1, L2].flatten = L0 ++ L1 ++ L2 by simp] at h
  refine h.mono ?_
  rintro e w' ⟨u, rfl, a', c', rfl, ho, k⟩
  exact ⟨_, rfl, ⟨a', c', rfl, ho, k⟩⟩
theorem concat2I (L0 L1 : List Int) (b : Nat) (t : TypeId) (A0 A1 : Option Addr) (n0 n1 C0 C1 : Nat) (w : World) (hb : w.heap[b]? = some (.cells #[.slice A0 n0 C0, .slice A1 n1 C1] t (0, 0))) (h0 : L0.length = n0) (h1 : L1.length = n1) (r0 : Row w (.slice A0 n0 C0) (IS L0)) (r1 : Row w (.slice A1 n1 C1) (IS L1)) (hN : (n0 + n1) * 8 ≤ 140737488355328) :
    Calls Tryd.prog 57 #[.slice (some ⟨b, 0, none⟩) 2 2] w fun e w' => ∃ u, e = .returned u ∧ ClI (L0 ++ L1) w u w' := by
  subst h0 h1
  have h := concatI [L0, L1] b (fun j => match j with | 0 => A0 | _ => A1) (fun j => match j with | 0 => C0 | _ => C1) 2 w rfl (by omega) (fun j hj => by
    match j, hj with
    | 0, _ => exact ⟨(blk_cell (j := 0) hb).trans rfl, r0⟩
    | 1, _ => exact ⟨(blk_cell (j := 1) hb).trans rfl, r1⟩
    | q + 2, hq => simp at hq; omega) (by simp; omega)
  rw [show [L0, L1].flatten = L0 ++ L1 by simp] at h
  refine h.mono ?_
  rintro e w' ⟨u, rfl, a', c', rfl, ho, k⟩
  exact ⟨_, rfl, ⟨a', c', rfl, ho, k⟩⟩
theorem row_one {W : World} {b : Nat} {x : ByteArray} (h : W.cell? ⟨b, 0, none⟩ = some (.string x)) : Row W (.slice (some ⟨b, 0, none⟩) 1 1) (TS [x]) :=
  ⟨some ⟨b, 0, none⟩, 1, rfl, Nat.le_refl _, fun e => (by cases e), fun _ => ⟨b, 0, rfl, fun i v hv => by
    match i, hv with
    | 0, hv => simp [TS] at hv; subst hv; exact h
    | q + 1, hv => simp [TS] at hv⟩⟩
/-- What Join gives. -/
structure JnR (m : Nd) (w : World) (u : Value) (W : World) : Prop where
  ex : ∃ v, u = .tuple #[v, .int .i64 0] ∧ NdO w.heap.size W v m ∧ Same w W
end Go.Proofs.YtpjgghalnkfdkaaDoor
