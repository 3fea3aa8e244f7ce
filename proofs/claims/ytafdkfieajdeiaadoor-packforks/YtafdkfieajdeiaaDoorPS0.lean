/- pack, pure: the slots of any bytes. -/
import Derived.Test.YtafdkfieajdeiaaDoorPRg
namespace Go.Proofs.YtafdkfieajdeiaaDoor
open Go.RowKit
set_option linter.unusedVariables false
def slotsL (L : List UInt8) : Nat → Nat → List (Nat × Nat)
  | 0, _ => []
  | f + 1, a => match slotOf L a with
    | none => []
    | some s => s :: slotsL L f (s.1 + s.2)
/-- Where the last one ends. -/
def endL (l : List (Nat × Nat)) : Nat := match l.getLast? with
  | none => 16
  | some s => s.1 + s.2
/-- All slots of a container's bytes ahead of its footer. -/
def slotsA (L : List UInt8) : List (Nat × Nat) := slotsL L L.length 16
theorem slotOf_some {L : List UInt8} {a : Nat} {s : Nat × Nat} (h : slotOf L a = some s) : s.1 = a + 8 ∧ 1 ≤ s.2 ∧ s.1 + s.2 ≤ L.length := by
  unfold slotOf at h
  split at h
  · rename_i hc
    cases h
    exact ⟨rfl, hc.2.1, by simp only; omega⟩
  · cases h
/-- How far one has come. -/
structure SlI (L : List UInt8) (pre : List (Nat × Nat)) (a : Nat) : Prop where
  ex : ∃ f, slotsA L = pre ++ slotsL L f a ∧ L.length ≤ a + f
  fit : a ≤ L.length
  few : pre.length * 9 + 16 ≤ a
  last : endL pre = a
theorem SlI.start {L : List UInt8} (h : 16 ≤ L.length) : SlI L [] 16 := ⟨⟨L.length, rfl, by omega⟩, h, by simp, rfl⟩
theorem SlI.none {L : List UInt8} {pre : List (Nat × Nat)} {a : Nat} (h : SlI L pre a) (h0 : slotOf L a = none) : slotsA L = pre := by
  obtain ⟨f, e, _⟩ := h.ex
  cases f with
  | zero => rw [e]; simp [slotsL]
  | succ f => rw [e]; simp [slotsL, h0]
theorem SlI.some {L : List UInt8} {pre : List (Nat × Nat)} {a : Nat} {s : Nat × Nat} (h : SlI L pre a) (h0 : slotOf L a = some s) : SlI L (pre ++ [s]) (s.1 + s.2) := by
  obtain ⟨e1, e2, e3⟩ := slotOf_some h0
  obtain ⟨f, e, hf⟩ := h.ex
  have hfew := h.few
  cases f with
  | zero => omega
  | succ f =>
    refine ⟨⟨f, ?_, by omega⟩, e3, by simp; omega, by simp [endL]⟩
    rw [e]
    simp only [slotsL, h0]
    simp
theorem SlI.pre {L : List UInt8} {pre : List (Nat × Nat)} {a : Nat} (h : SlI L pre a) : pre <+: slotsA L := by
  obtain ⟨f, e, _⟩ := h.ex
  exact ⟨_, e.symm⟩
end Go.Proofs.YtafdkfieajdeiaaDoor
