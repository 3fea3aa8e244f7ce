/- The law's own 'awake': true, whatever the world that holds the table. -/
import Derived.Test.YtafdkfieajdeiaaDoorWri2
import Derived.Test.YtafdkfieajdeiaaDoorRd3
import Derived.Test.YtafdkfieajdeiaaDoorCrc
namespace Go.Proofs.YtafdkfieajdeiaaDoor
open Go.RowKit
set_option linter.unusedVariables false

/-- Nothing that was there has turned. -/
abbrev Same (w w' : World) : Prop := Kept (fun _ => False) w w'
theorem Same.wr {w a b : World} {B g : Nat} (h : Same w a) (k : Kept (wrS B g) a b) (hB : w.heap.size ≤ B) (hg : w.heap.size ≤ g) : Same w b :=
  h.trans' k fun i hi hs => by rcases hs with rfl | hs <;> omega
theorem Same.rd {w a b : World} {g : Nat} (h : Same w a) (k : Kept (only g) a b) (hg : w.heap.size ≤ g) : Same w b :=
  h.trans' k fun i hi hs => by have : i = g := hs; omega
theorem Tab.lt {w : World} (h : Tab w) : 0 < w.heap.size := World.block_lt_of_cell? w _ (h 0 (by decide))
theorem Tab.same {w w' : World} (h : Tab w) (k : Same w w') : Tab w' := h.kept k (fun h => h)
theorem newW (most : Int) (w : World) (h0 : 0 ≤ most) (h1 : most ≤ 9223372036854775807) :
    Calls Tryd.prog 65 #[.int .i64 most] w fun e w' => e = .returned (.pointer (some ⟨w.heap.size, 0, none⟩)) ∧ WS w.heap.size w.heap.size most ([], false) w' ∧ Same w w' ∧ w'.heap.size = w.heap.size + 1 := by
  refine (newWriter most w (by omega) h1).mono ?_
  rintro e w' ⟨rfl, rfl⟩
  have h := WS.new (most := most) w h1 (Nat.le_refl _)
  rw [show max most 0 = most by omega] at h ⊢
  exact ⟨rfl, h, (Kept.refl _ _).alloc _, by simp⟩
theorem newR (s : ByteArray) (w : World) (hs : s.size ≤ 281474976710656) :
    Calls Tryd.prog 53 #[.string s] w fun e w' => e = .returned (.pointer (some ⟨w.heap.size, 0, none⟩)) ∧ Rd w.heap.size (s, 0) w' ∧ Same w w' ∧ w'.heap.size = w.heap.size + 1 := by
  refine (newReader s w).mono ?_
  rintro e w' ⟨rfl, rfl⟩
  exact ⟨rfl, Rd.new s w hs, (Kept.refl _ _).alloc _, by simp⟩
theorem crc_nine (w : World) (hT : Tab w) : Calls Tryd.prog 68 #[.string ⟨#[49, 50, 51, 52, 53, 54, 55, 56, 57]⟩] w fun x w' => x = .returned (.int .u32 3808858755) ∧ w = w' := by
  have h := crc_any ⟨#[49, 50, 51, 52, 53, 54, 55, 56, 57]⟩ w (by decide) hT
  have e : crc [49, 50, 51, 52, 53, 54, 55, 56, 57] = 3808858755 := by decide +kernel
  rw [e] at h
  exact h
theorem st1 : wput 100 ([], false) (vbytes 300) = ([172, 2], false) := by decide +kernel
theorem st2 : wput 100 (wput 100 ([172, 2], false) (vbytes 2)) [97, 98] = ([172, 2, 2, 97, 98], false) := by decide +kernel
theorem st3 : wdone ([172, 2, 2, 97, 98], false) = (⟨#[172, 2, 2, 97, 98]⟩, 0) := rfl
theorem st4 : rvar (⟨#[172, 2, 2, 97, 98]⟩, 0) = (300, (⟨#[2, 97, 98]⟩, 0)) := by kernel_rfl
theorem st5 : rtext (⟨#[2, 97, 98]⟩, 0) = (⟨#[97, 98]⟩, (⟨#[]⟩, 0)) := by kernel_rfl
theorem st6 : rdone (⟨#[]⟩, 0) = 0 := by kernel_rfl
theorem wD {B g : Nat} {w : World} (h : WS B g 100 ([172, 2, 2, 97, 98], false) w) : Calls Tryd.prog 67 #[.pointer (some ⟨g, 0, none⟩)] w fun e w' => e = .returned (.tuple #[.string ⟨#[172, 2, 2, 97, 98]⟩, .int .i64 0]) ∧ w = w' := wDone h
end Go.Proofs.YtafdkfieajdeiaaDoor
