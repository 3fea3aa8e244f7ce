/- A Space's Take. -/
import Derived.Test.YtbmbdidmbdanmaaDoorRndS
import Derived.Sort.QuietTacIn
namespace Go.Proofs.YtbmbdidmbdanmaaDoor
open Go.RowKit Go.Shelf
set_option linter.unusedVariables false
set_option linter.unusedSimpArgs false
attribute [local go_sem] Oper.semAt_some
/-- The four boxes of a Take. -/
def tkW (w : World) (g : Nat) (n : Int) : World := (((w.alloc (.cells #[.pointer (some ⟨g, 0, none⟩)] 25)).alloc (.cells #[.int .i64 n] 3)).alloc (.cells #[.int .i64 0] 3)).alloc (.cells #[.int .i64 0] 40)
structure TkB (w : World) (g : Nat) (n : Int) (W : World) : Prop where
  b0 : W.heap[w.heap.size]? = some (.cells #[.pointer (some ⟨g, 0, none⟩)] 25 (0, 0))
  b1 : W.heap[w.heap.size + 1]? = some (.cells #[.int .i64 n] 3 (0, 0))
  b2 : W.heap[w.heap.size + 2]? = some (.cells #[.int .i64 0] 3 (0, 0))
  b3 : W.heap[w.heap.size + 3]? = some (.cells #[.int .i64 0] 40 (0, 0))
theorem tkW_same (w : World) (g : Nat) (n : Int) : Same w (tkW w g n) := (((Kept.refl _ w).alloc _).alloc _).alloc _ |>.alloc _
theorem tkW_size (w : World) (g : Nat) (n : Int) : (tkW w g n).heap.size = w.heap.size + 4 := by simp [tkW]
theorem tkW_b (w : World) (g : Nat) (n : Int) : TkB w g n (tkW w g n) := by
  have e : ∀ (W : World) (o : Obj), (W.alloc o).heap.size = W.heap.size + 1 := fun W o => by simp
  refine ⟨blk_alloc (blk_alloc (blk_alloc (blk_new w _) _) _) _, ?_, ?_, ?_⟩
  · have h := blk_alloc (blk_alloc (blk_new (w.alloc (.cells #[.pointer (some ⟨g, 0, none⟩)] 25)) (.cells #[.int .i64 n] 3)) (.cells #[.int .i64 0] 3)) (.cells #[.int .i64 0] 40)
    rw [e] at h
    exact h
  · have h := blk_alloc (blk_new ((w.alloc (.cells #[.pointer (some ⟨g, 0, none⟩)] 25)).alloc (.cells #[.int .i64 n] 3)) (.cells #[.int .i64 0] 3)) (.cells #[.int .i64 0] 40)
    rw [e, e] at h
    exact h
  · have h := blk_new (((w.alloc (.cells #[.pointer (some ⟨g, 0, none⟩)] 25)).alloc (.cells #[.int .i64 n] 3)).alloc (.cells #[.int .i64 0] 3)) (.cells #[.int .i64 0] 40)
    rw [e, e, e] at h
    exact h
theorem TkB.keep {w : World} {g : Nat} {n : Int} {W W' : World} (h : TkB w g n W) (k : Same W W') : TkB w g n W' := ⟨blk_kept k (fun h => h) h.b0, blk_kept k (fun h => h) h.b1, blk_kept k (fun h => h) h.b2, blk_kept k (fun h => h) h.b3⟩
/-- The two results laid. -/
theorem tk_res {w : World} {g : Nat} {n : Int} {W : World} (h : TkB w g n W) (x y : Int) :
    let V := (W.setCell ⟨w.heap.size + 2, 0, none⟩ (.int .i64 x)).setCell ⟨w.heap.size + 3, 0, none⟩ (.int .i64 y)
    V.cell? ⟨w.heap.size + 2, 0, none⟩ = some (.int .i64 x) ∧ V.cell? ⟨w.heap.size + 3, 0, none⟩ = some (.int .i64 y) ∧ (∀ S : Nat → Prop, Kept S w W → Kept S w V) := by
  intro V
  have e1 : (W.setCell ⟨w.heap.size + 2, 0, none⟩ (.int .i64 x)).heap[w.heap.size + 2]? = some (.cells #[.int .i64 x] 3 (0, 0)) := blk_set h.b2 _
  have k1 : Kept (fun k => k = w.heap.size + 2) W (W.setCell ⟨w.heap.size + 2, 0, none⟩ (.int .i64 x)) := (Kept.refl (fun k => k = w.heap.size + 2) W).setCell (p := ⟨w.heap.size + 2, 0, none⟩) rfl _
  have e2 := blk_kept k1 (by omega) h.b3
  have k2 : Kept (fun k => k = w.heap.size + 3) (W.setCell ⟨w.heap.size + 2, 0, none⟩ (.int .i64 x)) V := (Kept.refl (fun k => k = w.heap.size + 3) _).setCell (p := ⟨w.heap.size + 3, 0, none⟩) rfl _
  refine ⟨blk_cell (blk_kept k2 (by omega) e1), blk_cell (blk_set e2 _), fun S k => ?_⟩
  exact (k.setNew (p := ⟨w.heap.size + 2, 0, none⟩) (by show w.heap.size ≤ w.heap.size + 2; omega) _).setNew (p := ⟨w.heap.size + 3, 0, none⟩) (by show w.heap.size ≤ w.heap.size + 3; omega) _
set_option maxHeartbeats 2000000 in
set_option maxRecDepth 100000 in
theorem sp_takeArg (g first count : Nat) (u v : Nat → Bool) (res : Nat) (n : Int) (w : World) (h : SpAt g first count u v res w) (hn : n < 1) :
    Calls Tryd.prog 15 #[.pointer (some ⟨g, 0, none⟩), .int .i64 n] w fun r w' => r = .returned (.tuple #[.int .i64 0, .int .i64 1]) ∧ Same w w' := by
  have A := hidden (sp_made g first count u v res (tkW w g n) (h.kept (tkW_same w g n) (fun h => h)))
  have HT := hidden (tkW_b w g n)
  have HS := hidden (tkW_same w g n)
  clear h
  go_enter Tryd.func15, Tryd.ntmps15
  go_wp2_with (go_at_call 44; refine (A.out).mono ?_; rintro e w1 ⟨rfl, hw1⟩; subst hw1; have x1 : (tkW w g n).cell? ⟨w.heap.size + 1, 0, none⟩ = some (.int .i64 n) := blk_cell HT.out.b1; have x2 : (tkW w g n).cell? ⟨w.heap.size + 2, 0, none⟩ = some (.int .i64 0) := blk_cell HT.out.b2; have x3 : (tkW w g n).cell? ⟨w.heap.size + 3, 0, none⟩ = some (.int .i64 0) := blk_cell HT.out.b3; have f2 : (tkW w g n).frozen? ⟨w.heap.size + 2, 0, none⟩ = false := blk_free HT.out.b2; have f3 : (tkW w g n).frozen? ⟨w.heap.size + 3, 0, none⟩ = false := blk_free HT.out.b3)
  obtain ⟨y1, y2, y3⟩ := tk_res HT.out 0 1
  refine bodyPost_ret (v := .tuple #[.int .i64 0, .int .i64 1]) (by simp [results, Tryd.results15, go_sem, y1, y2]) rfl ⟨rfl, y3 _ HS.out⟩
set_option maxHeartbeats 2000000 in
set_option maxRecDepth 100000 in
theorem sp_takeFull (g first count : Nat) (u v : Nat → Bool) (res : Nat) (n : Int) (w : World) (h : SpAt g first count u v res w) (h1 : 1 ≤ n) (hn : leftZ count u v res < n) :
    Calls Tryd.prog 15 #[.pointer (some ⟨g, 0, none⟩), .int .i64 n] w fun r w' => r = .returned (.tuple #[.int .i64 0, .int .i64 2]) ∧ Same w w' := by
  have A := hidden (sp_made g first count u v res (tkW w g n) (h.kept (tkW_same w g n) (fun h => h)))
  have HL := hidden (fun W (k : Same (tkW w g n) W) => sp_leftN g first count u v res W (h.kept ((tkW_same w g n).trans k) (fun h => h)))
  have HT := hidden (tkW_b w g n)
  have HS := hidden (tkW_same w g n)
  have q0 : ¬ n < 1 := by omega
  generalize leftZ count u v res = L at *
  clear h
  go_enter Tryd.func15, Tryd.ntmps15
  go_wp2_with (go_at_call 44; refine (A.out).mono ?_; rintro e w1 ⟨rfl, hw1⟩; subst hw1; have x0 : (tkW w g n).cell? ⟨w.heap.size, 0, none⟩ = some (.pointer (some ⟨g, 0, none⟩)) := blk_cell HT.out.b0; have x1 : (tkW w g n).cell? ⟨w.heap.size + 1, 0, none⟩ = some (.int .i64 n) := blk_cell HT.out.b1)
  generalize tkW w g n = w1 at *
  have KD := hidden (fun nn => (Kept.refl (fun _ => False) w1).drewN nn)
  go_quiet (first | (go_at_call 25; exact Calls.quiet_of (HL.out _ (KD.out _))))
  have HT2 := hidden (HT.out.keep (KD.out nq))
  have HS2 := hidden (HS.out.trans (KD.out nq))
  generalize w1.drewN nq = w2 at *
  have x2 : w2.cell? ⟨w.heap.size + 2, 0, none⟩ = some (.int .i64 0) := blk_cell HT2.out.b2
  have x3 : w2.cell? ⟨w.heap.size + 3, 0, none⟩ = some (.int .i64 0) := blk_cell HT2.out.b3
  have f2 : w2.frozen? ⟨w.heap.size + 2, 0, none⟩ = false := blk_free HT2.out.b2
  have f3 : w2.frozen? ⟨w.heap.size + 3, 0, none⟩ = false := blk_free HT2.out.b3
  go_wp2
  obtain ⟨y1, y2, y3⟩ := tk_res HT2.out 0 2
  refine bodyPost_ret (v := .tuple #[.int .i64 0, .int .i64 2]) (by simp [results, Tryd.results15, go_sem, y1, y2]) rfl ⟨rfl, y3 _ HS2.out⟩
end Go.Proofs.YtbmbdidmbdanmaaDoor
