/- The law's own 'awake': true, whatever the world that holds the table. -/
import Derived.Test.YtfeaaielopaonaaDoorWri2
import Derived.Test.YtfeaaielopaonaaDoorRd3
import Derived.Test.YtfeaaielopaonaaDoorCrc
namespace Go.Proofs.YtfeaaielopaonaaDoor
open Go.RowKit
set_option linter.unusedVariables false

/-- Nothing that was there has turned. -/
abbrev Same (w w' : World) : Prop := Kept (fun _ => False) w w'
theorem Same.wr {w a b : World} {B g : Nat} (h : Same w a) (k : WT B g a b) (hB : w.heap.size ≤ B) (hg : w.heap.size ≤ g) : Same w b :=
  h.trans' k fun i hi hs => by rcases hs with rfl | ⟨hs, _⟩ <;> omega
theorem Same.rd {w a b : World} {g : Nat} (h : Same w a) (k : Kept (only g) a b) (hg : w.heap.size ≤ g) : Same w b :=
  h.trans' k fun i hi hs => by have : i = g := hs; omega
theorem Tab.lt {w : World} (h : Tab w) : 0 < w.heap.size := World.block_lt_of_cell? w _ (h 0 (by decide))
theorem Tab.same {w w' : World} (h : Tab w) (k : Same w w') : Tab w' := h.kept k (fun h => h)
theorem newW (most : Int) (w : World) (h0 : 0 ≤ most) (h1 : most ≤ 9223372036854775807) :
    Calls Tryd.prog 4 #[.int .i64 most] w fun e w' => e = .returned (.pointer (some ⟨w.heap.size, 0, none⟩)) ∧ WS w.heap.size w.heap.size most ([], false) w' ∧ Same w w' ∧ w'.heap.size = w.heap.size + 1 := by
  refine (newWriter most w (by omega) h1).mono ?_
  rintro e w' ⟨rfl, rfl⟩
  have h := WS.new (most := most) w h1 (Nat.le_refl _)
  rw [show max most 0 = most by omega] at h ⊢
  exact ⟨rfl, h, (Kept.refl _ _).alloc _, by simp⟩
theorem newR (s : ByteArray) (w : World) (hs : s.size ≤ 281474976710656) :
    Calls Tryd.prog 13 #[.string s] w fun e w' => e = .returned (.pointer (some ⟨w.heap.size, 0, none⟩)) ∧ Rd w.heap.size (s, 0) w' ∧ Same w w' ∧ w'.heap.size = w.heap.size + 1 := by
  refine (newReader s w).mono ?_
  rintro e w' ⟨rfl, rfl⟩
  exact ⟨rfl, Rd.new s w hs, (Kept.refl _ _).alloc _, by simp⟩
theorem crc_nine (w : World) (hT : Tab w) : Calls Tryd.prog 10 #[.string ⟨#[49, 50, 51, 52, 53, 54, 55, 56, 57]⟩] w fun x w' => x = .returned (.int .u32 3808858755) ∧ w = w' := by
  have h := crc_any ⟨#[49, 50, 51, 52, 53, 54, 55, 56, 57]⟩ w (by decide) hT
  have e : crc [49, 50, 51, 52, 53, 54, 55, 56, 57] = 3808858755 := by decide +kernel
  rw [e] at h
  exact h
theorem st1 : wput 100 ([], false) (vbytes 300) = ([172, 2], false) := by decide +kernel
theorem st2 : wput 100 (wput 100 ([172, 2], false) (vbytes 2)) [97, 98] = ([172, 2, 2, 97, 98], false) := by decide +kernel
theorem st3 : wdone ([172, 2, 2, 97, 98], false) = (⟨#[172, 2, 2, 97, 98]⟩, 0) := rfl
theorem st4 : rvar (⟨#[172, 2, 2, 97, 98]⟩, 0) = (300, (⟨#[2, 97, 98]⟩, 0)) := by kernel_rfl
theorem st5 : rtext (⟨#[2, 97, 98]⟩, 0) = (⟨#[97, 98]⟩, (⟨#[]⟩, 0)) := by kernel_rfl
theorem st6 : rdone (⟨#[]⟩, 0) = 0 := by kernel_rfl
theorem w300 {B g : Nat} {w : World} (h : WS B g 100 ([], false) w) : Calls Tryd.prog 11 #[.pointer (some ⟨g, 0, none⟩), .int .u64 300] w fun e w' => e = .returned (.tuple #[]) ∧ WS B g 100 ([172, 2], false) w' ∧ WT B g w w' := by
  have k := wVar h 300 (by decide) (by decide)
  rw [st1] at k
  exact k
theorem wAb {B g : Nat} {w : World} (h : WS B g 100 ([172, 2], false) w) : Calls Tryd.prog 12 #[.pointer (some ⟨g, 0, none⟩), .string ⟨#[97, 98]⟩] w fun e w' => e = .returned (.tuple #[]) ∧ WS B g 100 ([172, 2, 2, 97, 98], false) w' ∧ WT B g w w' := by
  have k := wText h ⟨#[97, 98]⟩ (by decide +kernel)
  have e : wput 100 (wput 100 ([172, 2], false) (vbytes (⟨#[97, 98]⟩ : ByteArray).size)) (⟨#[97, 98]⟩ : ByteArray).data.toList = ([172, 2, 2, 97, 98], false) := st2
  rw [e] at k
  exact k
theorem wD {B g : Nat} {w : World} (h : WS B g 100 ([172, 2, 2, 97, 98], false) w) : Calls Tryd.prog 8 #[.pointer (some ⟨g, 0, none⟩)] w fun e w' => e = .returned (.tuple #[.string ⟨#[172, 2, 2, 97, 98]⟩, .int .i64 0]) ∧ w = w' := wDone h
theorem r300 {g : Nat} {w : World} (h : Rd g (⟨#[172, 2, 2, 97, 98]⟩, 0) w) : Calls Tryd.prog 14 #[.pointer (some ⟨g, 0, none⟩)] w fun x w' => x = .returned (.int .u64 300) ∧ Rd g (⟨#[2, 97, 98]⟩, 0) w' ∧ Kept (only g) w w' := by
  have k := rVar h
  rw [st4] at k
  exact k
theorem rAb {g : Nat} {w : World} (h : Rd g (⟨#[2, 97, 98]⟩, 0) w) : Calls Tryd.prog 15 #[.pointer (some ⟨g, 0, none⟩)] w fun x w' => x = .returned (.string ⟨#[97, 98]⟩) ∧ Rd g (⟨#[]⟩, 0) w' ∧ Kept (only g) w w' := by
  have k := rText h
  rw [st5] at k
  exact k
theorem rD {g : Nat} {w : World} (h : Rd g (⟨#[]⟩, 0) w) : Calls Tryd.prog 16 #[.pointer (some ⟨g, 0, none⟩)] w fun x w' => x = .returned (.int .i64 0) ∧ w = w' := by
  have k := rDone h
  rw [st6] at k
  exact k
set_option maxHeartbeats 2000000 in
set_option maxRecDepth 100000 in
theorem awake_any (w : World) (hT : Tab w) : Calls Tryd.prog 5 #[] w fun x w' => x = .returned (.bool true) ∧ Same w w' := by
  have HT := hidden hT
  clear hT
  go_enter Tryd.func5, Tryd.ntmps5
  go_wp2_with (first
    | (go_at_call 4; refine (newW 100 _ (by decide) (by decide)).mono ?_; rintro e w1 ⟨rfl, s1, k1, z1⟩; have K1 := hidden k1; have Z1 := hidden z1; clear k1 z1)
    | (go_at_call 10; refine (crc_nine _ (HT.out.same K1.out)).mono ?_; rintro e w2 ⟨rfl, rfl⟩)
    | (go_at_call 11; refine (w300 s1).mono ?_; rintro e w2 ⟨rfl, s2, k2⟩)
    | (go_at_call 12; refine (wAb s2).mono ?_; rintro e w3 ⟨rfl, s3, k3⟩)
    | (go_at_call 8; refine (wD s3).mono ?_; rintro e w4 ⟨rfl, rfl⟩)
    | (go_at_call 13; refine (newR _ _ (by decide)).mono ?_; rintro e w4 ⟨rfl, s4, k4, z4⟩; have Z4 := hidden z4; clear z4)
    | (go_at_call 14; refine (r300 s4).mono ?_; rintro e w5 ⟨rfl, s5, k5⟩)
    | (go_at_call 15; refine (rAb s5).mono ?_; rintro e w6 ⟨rfl, s6, k6⟩)
    | (go_at_call 16; refine (rD s6).mono ?_; rintro e w7 ⟨rfl, rfl⟩))
  go_returns
  have K3 : Same w w3 := (K1.out.wr k2 (Nat.le_refl _) (Nat.le_refl _)).wr k3 (Nat.le_refl _) (Nat.le_refl _)
  have hz : w.heap.size ≤ w3.heap.size := K3.size
  have K4 : Same w w4 := K3.trans k4
  exact ⟨rfl, Same.rd (Same.rd K4 k5 hz) k6 hz⟩
end Go.Proofs.YtfeaaielopaonaaDoor
