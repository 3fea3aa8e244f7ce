/- codec.Writer: writes for which there is room; lists of bytes as texts. (In seats without codec.Frame; FrameP has the same.) -/
import Derived.Test.YtafdkfieajdeiaaDoorAwake
namespace Go.Proofs.YtafdkfieajdeiaaDoor
open Go.RowKit
set_option linter.unusedVariables false

theorem fit {most : Int} {bs new : List UInt8} (h : (bs.length : Int) + new.length ≤ most) : wput most (bs, false) new = (bs ++ new, false) := by
  unfold wput
  rw [if_pos]
  simp only [wOk, Bool.not_false, Bool.true_and, decide_eq_true_eq]
  omega
theorem fitRaw {B g : Nat} {most : Int} {bs : List UInt8} {w : World} (h : WS B g most (bs, false) w) (s : ByteArray) (hf : (bs.length : Int) + s.size ≤ most) (hl : bs.length + s.size ≤ 140737488355328) :
    Calls Tryd.prog 76 #[.pointer (some ⟨g, 0, none⟩), .string s] w fun e w' => e = .returned (.tuple #[]) ∧ WS B g most (bs ++ s.data.toList, false) w' ∧ Kept (wrS B g) w w' := by
  have k := wRaw h s hl
  rw [fit (by rw [size_list]; exact hf)] at k
  exact k
theorem fitU32 {B g : Nat} {most : Int} {bs : List UInt8} {w : World} (h : WS B g most (bs, false) w) (n : Nat) (hn : n < 4294967296) (hf : (bs.length : Int) + 4 ≤ most) (hl : bs.length + 4 ≤ 140737488355328) :
    Calls Tryd.prog 66 #[.pointer (some ⟨g, 0, none⟩), .int .u32 n] w fun e w' => e = .returned (.tuple #[]) ∧ WS B g most (bs ++ be 4 n, false) w' ∧ Kept (wrS B g) w w' := by
  have k := wU32 h n hn hl
  rw [fit (by rw [be_length]; exact hf)] at k
  exact k
theorem fitDone {B g : Nat} {most : Int} {bs : List UInt8} {w : World} (h : WS B g most (bs, false) w) :
    Calls Tryd.prog 67 #[.pointer (some ⟨g, 0, none⟩)] w fun e w' => e = .returned (.tuple #[.string ⟨bs.toArray⟩, .int .i64 0]) ∧ w = w' := wDone h
theorem ba_list (l : List UInt8) : (⟨l.toArray⟩ : ByteArray).data.toList = l := by simp
theorem ba_size (l : List UInt8) : (⟨l.toArray⟩ : ByteArray).size = l.length := by rw [← size_list, ba_list]
end Go.Proofs.YtafdkfieajdeiaaDoor
