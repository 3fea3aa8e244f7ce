/- The program's End, and the document's Cutter: Write, End (for CutPieces). -/
import Derived.Test.YtdmekpokgnieeaaDoorPc1
namespace Go.Proofs.YtdmekpokgnieeaaDoor
open Go.RowKit Go.WideShapes Go.Shelf
set_option linter.unusedVariables false
attribute [local go_sem ↓] Go.wp_at_zero Go.wp_at_succ
theorem lens_rest (c : Shp) (hc : c.Ok) (r : List UInt8) (len h : Nat) (hr : c.grow 0 0 r = (r.length, false, len, h)) : c.lens r = (if len = 0 then [] else [len]) ∧ len = r.length := by
  have hlr : len = r.length := by have := c.grow_len r 0 0; rw [hr] at this; simpa using this
  refine ⟨?_, hlr⟩
  by_cases h0 : r = []
  · subst h0
    rw [Shp.lens_nil, hlr]
    rfl
  · have hpos : 0 < r.length := List.length_pos_iff.2 h0
    have hcut : c.cut r = r.length := by unfold Shp.cut; rw [hr]
    rw [c.lens_cons hc h0, hcut, List.drop_of_length_le (Nat.le_refl _), Shp.lens_nil, if_neg (by omega), hlr]
theorem one_row (w : World) (x : Int) : (w.alloc (.cells #[.int .i64 x] 3)).ownsRow w.heap.size 3 1 (.slice (some ⟨w.heap.size, 0, none⟩) 1 1) 1 [.int .i64 x] := by
  exact ⟨by simp, .inr ⟨w.heap.size, 1, #[.int .i64 x], rfl, Nat.le_refl _, heap_alloc_new w _, Nat.le_refl _, by decide, rfl, by simp⟩⟩
set_option maxHeartbeats 2000000 in
set_option maxRecDepth 100000 in
theorem cutEnd_no (c : Shp) (hc : c.Ok) {g h : Nat} {w : World} (H : CC c g 0 h w) :
    Calls Tryd.prog 15 #[.pointer (some ⟨g, 0, none⟩)] w fun e w' => e = .returned (.slice none 0 0) ∧ Same w w' := by
  have HMd := hidden (cutMade_yes c hc H)
  have c4 : w.cell? ⟨g, 4, none⟩ = some (.int .i64 0) := H.pc.c0
  clear H hc
  go_enter Tryd.func15, Tryd.ntmps15
  go_wp2_with (go_at_call 25; refine HMd.out.mono ?_; rintro e w1 ⟨rfl, rfl⟩)
  go_returns
  exact ⟨rfl, Kept.refl _ _⟩
set_option maxHeartbeats 2000000 in
set_option maxRecDepth 100000 in
theorem cutEnd_yes (c : Shp) (hc : c.Ok) {g len h : Nat} {w : World} (H : CC c g len h w) (hn : len ≠ 0) :
    Calls Tryd.prog 15 #[.pointer (some ⟨g, 0, none⟩)] w fun e w' => ∃ u, e = .returned u ∧ Ints w.heap.size w' u [len] ∧ CC c g 0 0 w' ∧ Upd g 4 w w' := by
  have HMd := hidden (cutMade_yes c hc H)
  have c4 : w.cell? ⟨g, 4, none⟩ = some (.int .i64 len) := H.pc.c0
  have hn2 : ((len : Int) == 0) = false := by rw [beq_eq_false_iff_ne]; omega
  have hn3 : ¬ (len : Int) = 0 := by omega
  clear hc
  have HH := hidden H
  have C1 := H.kept (same_alloc w (.cells #[.int .i64 (len : Int)] 3)) (fun h => h)
  have y4 : (w.alloc (.cells #[.int .i64 (len : Int)] 3)).cell? ⟨g, 4, none⟩ = some (.int .i64 len) := C1.pc.c0
  have y5 : (w.alloc (.cells #[.int .i64 (len : Int)] 3)).cell? ⟨g, 5, none⟩ = some (.int .u64 h) := C1.pc.c1
  have z4 : (w.alloc (.cells #[.int .i64 (len : Int)] 3)).frozen? ⟨g, 4, none⟩ = false := C1.pc.f0
  have z5 : (w.alloc (.cells #[.int .i64 (len : Int)] 3)).frozen? ⟨g, 5, none⟩ = false := C1.pc.f1
  have HC1 := hidden C1
  clear H C1
  go_enter Tryd.func15, Tryd.ntmps15
  go_wp2_with (go_at_call 25; refine HMd.out.mono ?_; rintro e w1 ⟨rfl, rfl⟩)
  go_returns
  have hk9 := (Upd.put0 g 4 (w.alloc (.cells #[.int .i64 (len : Int)] 3)) (.int .i64 0)).trans (Upd.put1 g 4 _ (.int .u64 0))
  have hgl := HH.out.pc.lt
  have ho := one_row w (len : Int)
  refine ⟨_, rfl, own_kept ho hk9.kept (fun k hk hs => by have h8 := own_ge ho k hk; have : k = g := hs; omega), HC1.out.zero, (Upd.same (same_alloc _ _) hgl).trans hk9⟩
end Go.Proofs.YtdmekpokgnieeaaDoor
