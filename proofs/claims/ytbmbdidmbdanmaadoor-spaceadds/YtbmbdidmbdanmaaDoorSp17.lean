/- The methods of a Space that New did not give: Take, Mark, Free, Later, Has, Bits, Fork, Runs. -/
import Derived.Test.YtbmbdidmbdanmaaDoorSp16
namespace Go.Proofs.YtbmbdidmbdanmaaDoor
open Go.RowKit Go.Shelf
set_option linter.unusedVariables false
set_option linter.unusedSimpArgs false
attribute [local go_sem] Oper.semAt_some
def tkO (w : World) (o : Option Addr) (n : Int) : World := (((w.alloc (.cells #[.pointer o] 25)).alloc (.cells #[.int .i64 n] 3)).alloc (.cells #[.int .i64 0] 3)).alloc (.cells #[.int .i64 0] 40)
theorem tkO_same (w : World) (o : Option Addr) (n : Int) : Same w (tkO w o n) := (((Kept.refl _ w).alloc _).alloc _).alloc _ |>.alloc _
theorem tkO_b2 (w : World) (o : Option Addr) (n : Int) : (tkO w o n).heap[w.heap.size + 2]? = some (.cells #[.int .i64 0] 3 (0, 0)) := by
  have e : ∀ (W : World) (o : Obj), (W.alloc o).heap.size = W.heap.size + 1 := fun W o => by simp
  have h := blk_alloc (blk_new ((w.alloc (.cells #[.pointer o] 25)).alloc (.cells #[.int .i64 n] 3)) (.cells #[.int .i64 0] 3)) (.cells #[.int .i64 0] 40)
  rw [e, e] at h
  exact h
theorem tkO_b3 (w : World) (o : Option Addr) (n : Int) : (tkO w o n).heap[w.heap.size + 3]? = some (.cells #[.int .i64 0] 40 (0, 0)) := by
  have e : ∀ (W : World) (o : Obj), (W.alloc o).heap.size = W.heap.size + 1 := fun W o => by simp
  have h := blk_new (((w.alloc (.cells #[.pointer o] 25)).alloc (.cells #[.int .i64 n] 3)).alloc (.cells #[.int .i64 0] 3)) (.cells #[.int .i64 0] 40)
  rw [e, e, e] at h
  exact h
theorem tkO_b0 (w : World) (o : Option Addr) (n : Int) : (tkO w o n).heap[w.heap.size]? = some (.cells #[.pointer o] 25 (0, 0)) := blk_alloc (blk_alloc (blk_alloc (blk_new w _) _) _) _
theorem tk_resO {w : World} {W : World} (h2 : W.heap[w.heap.size + 2]? = some (.cells #[.int .i64 0] 3 (0, 0))) (h3 : W.heap[w.heap.size + 3]? = some (.cells #[.int .i64 0] 40 (0, 0))) (x y : Int) :
    let V := (W.setCell ⟨w.heap.size + 2, 0, none⟩ (.int .i64 x)).setCell ⟨w.heap.size + 3, 0, none⟩ (.int .i64 y)
    V.cell? ⟨w.heap.size + 2, 0, none⟩ = some (.int .i64 x) ∧ V.cell? ⟨w.heap.size + 3, 0, none⟩ = some (.int .i64 y) ∧ (∀ S : Nat → Prop, Kept S w W → Kept S w V) := by
  intro V
  have e1 : (W.setCell ⟨w.heap.size + 2, 0, none⟩ (.int .i64 x)).heap[w.heap.size + 2]? = some (.cells #[.int .i64 x] 3 (0, 0)) := blk_set h2 _
  have k1 : Kept (fun k => k = w.heap.size + 2) W (W.setCell ⟨w.heap.size + 2, 0, none⟩ (.int .i64 x)) := (Kept.refl (fun k => k = w.heap.size + 2) W).setCell (p := ⟨w.heap.size + 2, 0, none⟩) rfl _
  have e2 := blk_kept k1 (by omega) h3
  have k2 : Kept (fun k => k = w.heap.size + 3) (W.setCell ⟨w.heap.size + 2, 0, none⟩ (.int .i64 x)) V := (Kept.refl (fun k => k = w.heap.size + 3) _).setCell (p := ⟨w.heap.size + 3, 0, none⟩) rfl _
  refine ⟨blk_cell (blk_kept k2 (by omega) e1), blk_cell (blk_set e2 _), fun S k => ?_⟩
  exact (k.setNew (p := ⟨w.heap.size + 2, 0, none⟩) (by show w.heap.size ≤ w.heap.size + 2; omega) _).setNew (p := ⟨w.heap.size + 3, 0, none⟩) (by show w.heap.size ≤ w.heap.size + 3; omega) _
set_option maxHeartbeats 2000000 in
set_option maxRecDepth 100000 in
theorem no_Take (o : Option Addr) (n : Int) (w : World) (h : NoSp (.pointer o) w) :
    Calls Tryd.prog 15 #[.pointer o, .int .i64 n] w fun r w' => r = .returned (.tuple #[.int .i64 0, .int .i64 6]) ∧ Same w w' := by
  have A := hidden (no_made (.pointer o) (tkO w o n) (h.same (tkO_same w o n)))
  have HS := hidden (tkO_same w o n)
  have HT := hidden (And.intro (tkO_b2 w o n) (tkO_b3 w o n))
  clear h
  go_enter Tryd.func15, Tryd.ntmps15
  go_wp2_with (go_at_call 44; refine (A.out).mono ?_; rintro e w1 ⟨rfl, hw1⟩; subst hw1; have x2 : (tkO w o n).cell? ⟨w.heap.size + 2, 0, none⟩ = some (.int .i64 0) := blk_cell HT.out.1; have x3 : (tkO w o n).cell? ⟨w.heap.size + 3, 0, none⟩ = some (.int .i64 0) := blk_cell HT.out.2; have f2 : (tkO w o n).frozen? ⟨w.heap.size + 2, 0, none⟩ = false := blk_free HT.out.1; have f3 : (tkO w o n).frozen? ⟨w.heap.size + 3, 0, none⟩ = false := blk_free HT.out.2)
  obtain ⟨y1, y2, y3⟩ := tk_resO HT.out.1 HT.out.2 0 6
  refine bodyPost_ret (v := .tuple #[.int .i64 0, .int .i64 6]) (by simp [results, Tryd.results15, go_sem, y1, y2]) rfl ⟨rfl, y3 _ HS.out⟩
set_option maxHeartbeats 2000000 in
set_option maxRecDepth 100000 in
theorem no_Mark (v : Value) (af ac : Int) (w : World) (h : NoSp v w) : Calls Tryd.prog 21 #[v, .agg #[.int .i64 af, .int .i64 ac]] w fun r w' => r = .returned (.int .i64 6) ∧ Same w w' := by
  have A := hidden (fun W (k : Same w W) => no_made v W (h.same k))
  clear h
  go_enter Tryd.func21, Tryd.ntmps21
  go_wp2_with (go_at_call 44; refine (A.out _ (same_alloc _ _)).mono ?_; rintro e w1 ⟨rfl, rfl⟩)
  go_returns
  exact ⟨rfl, same_alloc _ _⟩
set_option maxHeartbeats 2000000 in
set_option maxRecDepth 100000 in
theorem no_give (v : Value) (af ac : Int) (w : World) (h : NoSp v w) : Calls Tryd.prog 46 #[v, .agg #[.int .i64 af, .int .i64 ac]] w fun r w' => r = .returned (.tuple #[.int .i64 0, .int .i64 0, .int .i64 6]) ∧ Same w w' := by
  have A := hidden (fun W (k : Same w W) => no_made v W (h.same k))
  clear h
  go_enter Tryd.func46, Tryd.ntmps46
  go_wp2_with (go_at_call 44; refine (A.out _ (same_alloc _ _)).mono ?_; rintro e w1 ⟨rfl, rfl⟩)
  go_returns
  exact ⟨rfl, same_alloc _ _⟩
set_option maxHeartbeats 2000000 in
set_option maxRecDepth 100000 in
theorem no_Has (v : Value) (n : Int) (w : World) (h : NoSp v w) : Calls Tryd.prog 28 #[v, .int .i64 n] w fun r w' => r = .returned (.bool false) ∧ Same w w' := by
  have A := hidden (fun W (k : Same w W) => no_made v W (h.same k))
  clear h
  go_enter Tryd.func28, Tryd.ntmps28
  go_wp2_with (go_at_call 44; refine (A.out _ (Kept.refl _ _)).mono ?_; rintro e w1 ⟨rfl, rfl⟩)
  go_returns
  exact ⟨rfl, Kept.refl _ _⟩
set_option maxHeartbeats 2000000 in
set_option maxRecDepth 100000 in
theorem no_Bits (v : Value) (w : World) (h : NoSp v w) : Calls Tryd.prog 29 #[v] w fun r w' => r = .returned (.string ⟨#[]⟩) ∧ Same w w' := by
  have A := hidden (fun W (k : Same w W) => no_made v W (h.same k))
  clear h
  go_enter Tryd.func29, Tryd.ntmps29
  go_wp2_with (go_at_call 44; refine (A.out _ (Kept.refl _ _)).mono ?_; rintro e w1 ⟨rfl, rfl⟩)
  go_returns
  exact ⟨rfl, Kept.refl _ _⟩
set_option maxHeartbeats 2000000 in
set_option maxRecDepth 100000 in
theorem no_Fork (v : Value) (w : World) (h : NoSp v w) : Calls Tryd.prog 13 #[v] w fun r w' => r = .returned (.pointer none) ∧ Same w w' := by
  have A := hidden (fun W (k : Same w W) => no_made v W (h.same k))
  clear h
  go_enter Tryd.func13, Tryd.ntmps13
  go_wp2_with (go_at_call 44; refine (A.out _ (Kept.refl _ _)).mono ?_; rintro e w1 ⟨rfl, rfl⟩)
  go_returns
  exact ⟨rfl, Kept.refl _ _⟩
set_option maxHeartbeats 2000000 in
set_option maxRecDepth 100000 in
theorem no_Free (v : Value) (af ac : Int) (w : World) (h : NoSp v w) : Calls Tryd.prog 16 #[v, .agg #[.int .i64 af, .int .i64 ac]] w fun r w' => r = .returned (.int .i64 6) ∧ Same w w' := by
  have G := hidden (fun W (k : Same w W) => no_give v af ac W (h.same k))
  clear h
  go_enter Tryd.func16, Tryd.ntmps16
  go_wp2_with (go_at_call 46; refine (G.out _ (same_alloc _ _)).mono ?_; rintro e w2 ⟨rfl, k2⟩; have K2 := hidden ((same_alloc w _).trans k2); clear k2)
  go_returns
  exact ⟨rfl, K2.out⟩
set_option maxHeartbeats 2000000 in
set_option maxRecDepth 100000 in
theorem no_Later (v : Value) (af ac : Int) (w : World) (h : NoSp v w) : Calls Tryd.prog 17 #[v, .agg #[.int .i64 af, .int .i64 ac]] w fun r w' => r = .returned (.int .i64 6) ∧ Same w w' := by
  have G := hidden (fun W (k : Same w W) => no_give v af ac W (h.same k))
  clear h
  go_enter Tryd.func17, Tryd.ntmps17
  go_wp2_with (go_at_call 46; refine (G.out _ (same_alloc _ _)).mono ?_; rintro e w2 ⟨rfl, k2⟩; have K2 := hidden ((same_alloc w _).trans k2); clear k2)
  go_returns
  exact ⟨rfl, K2.out⟩
set_option maxHeartbeats 2000000 in
set_option maxRecDepth 100000 in
theorem no_runs (w : World) (B : Nat) (o : Option Addr) (hB : w.heap[B]? = some (.cells #[.pointer o] 25 (0, 0))) (h : NoSp (.pointer o) w) :
    SeqStopsK Fence.wide 5 Tryd.prog 51 #[.pointer (some ⟨B, 0, none⟩)] (fun (x : Empty) => x.elim) (KC (fun _ => False)) (fun ys => ys = []) (fun _ => False) 0 w := fun lp J Jx W hW hJ _ hY h0 => by
  have c0 : W.cell? ⟨B, 0, none⟩ = some (.pointer o) := blk_cell ((hW.block B (blk_lt hB)).trans hB)
  have hN : NoSp (.pointer o) W := h.same ⟨hW.os, hW.tape, hW.output, hW.size, fun k hk _ => hW.block k hk⟩
  have A := hidden ((callsIn_wide (n := 4)).2 (no_made (.pointer o) W hN))
  have H0 := hidden h0
  clear hW hY hJ h0 hB h hN
  refine callsIn_of_wp Tryd.func51 rfl trivial ?_ rfl
  simp only [Tryd.ntmps51, List.size_toArray, List.length_cons, List.length_nil, Nat.reduceAdd, Nat.reduceSub, Array.replicate_succ, Array.replicate_zero, List.push_toArray, List.append_toArray, List.nil_append, List.cons_append]
  gi_wp2_with (refine ⟨trivial, ?_⟩; gi_at_call 44; refine (A.out).mono ?_; rintro e w1 ⟨rfl, rfl⟩)
  refine bodyPost_ret (v := .tuple #[]) (by simp [results, Tryd.results51, go_sem]) rfl ⟨⟨_, rfl⟩, .inl ⟨[], rfl, H0.out⟩⟩
end Go.Proofs.YtbmbdidmbdanmaaDoor
