/- disk: D5r of a Disk whose power lasts. -/
import Derived.Test.YteoajgphahobiaaD4
namespace Go.Proofs.Yteoajgphahobiaa
open Go.RowKit
set_option linter.unusedVariables false

set_option maxHeartbeats 1000000 in
set_option maxRecDepth 100000 in
theorem d_read (n pb c pc rb rc g i : Nat) (qv : Value) (xs : List Value) (r wn f : Nat) (v : Value) (l : List UInt8) (w : World)
    (hb : w.heap[g]? = some (.cells (DC n pb c pc rb rc qv r wn f) 74 (0, 0))) (ho : w.ownsRow 0 22 1 (.slice (some ⟨rb, 0, none⟩) c rc) c xs)
    (hi : i < c) (hx : xs[i]? = some v) (hv : Byt w v l) (hvn : ∀ a k cap, v = .slice (some a) k cap → a.block ≠ g) (hl : l.length ≤ 4096) (hr : r ≤ 4398046511104) :
    Calls Try.prog 29 #[.pointer (some ⟨g, 0, none⟩), .int .i64 i] w fun e w' => ∃ u, e = .returned (.tuple #[u, .int .i64 0]) ∧ Own w' u l w.heap.size ∧ w'.heap[g]? = some (.cells (DC n pb c pc rb rc qv (r + 1) wn f) 74 (0, 0)) ∧ Kept (fun k => k = g) w w' := by
  have c1 : w.cell? ⟨g, 1, none⟩ = some (.slice (some ⟨pb, 0, none⟩) c pc) := blk_cell hb
  have c2 : w.cell? ⟨g, 2, none⟩ = some (.slice (some ⟨rb, 0, none⟩) c rc) := blk_cell hb
  have c6 : w.cell? ⟨g, 6, none⟩ = some (.int .i64 r) := blk_cell hb
  have f6 : w.frozen? ⟨g, 6, none⟩ = false := blk_free hb
  have A := hidden (d_has g pb c pc i w c1 hi)
  have hcx := (own_cell ho v hx).1
  have hne : rb ≠ g := fun e => own_apart ho hb (by decide) (by rw [← e]; rfl)
  have HBY := hidden (hv.setCell (g := g) (j := 6) (u := .int .i64 ((r : Int) + 1)) hvn)
  have HB := hidden hb
  obtain ⟨va, vc, rfl⟩ := hv.form
  clear hv hvn hb ho
  have q0 : (0 : Int) ≤ (i : Int) := Int.natCast_nonneg _
  have q1 : (i : Int) < (c : Int) := by omega
  go_enter Try.func29, Try.ntmps29
  go_wp2_with (first
    | (go_at_call 43; refine (A.out).mono ?_; rintro e w1 ⟨rfl, rfl⟩)
    | (go_at_call 40; refine (d_sectorOf _ l _ HBY.out (by omega)).mono ?_; rintro e w2 ⟨u, rfl, hu, k2⟩))
  go_returns
  refine ⟨u, rfl, hu.weak (by simp [World.setCell]), blk_kept k2 (fun h => h) ?_, ((Kept.refl (fun k => k = g) w).setCell (p := ⟨g, 6, none⟩) rfl _).trans' k2 (fun _ _ h => h.elim)⟩
  exact blk_set (j := 6) HB.out _
end Go.Proofs.Yteoajgphahobiaa
