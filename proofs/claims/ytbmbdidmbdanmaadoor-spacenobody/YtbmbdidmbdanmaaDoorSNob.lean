/-
  SpaceNobody (P6.6): whatever the step: of a nil Space and of one that New did not give nothing is told: the law's call returns true and leaves its arguments as they were.
  Condition: the table deBruijn64tab holds what the library's text lays (the card ties it).
-/
import Derived.Test.YtbmbdidmbdanmaaDoorSpK
namespace Go.Proofs.YtbmbdidmbdanmaaDoor
open Go.RowKit Go.Shelf
set_option linter.unusedVariables false
set_option linter.unusedSimpArgs false
attribute [local go_sem] Oper.semAt_some
/-- What stands in memory between two rounds. -/
structure NB (w : World) (kd n af ac : Int) (z : Nat) (L : List (Nat × Obj)) (W : World) : Prop where
  op : W.heap[w.heap.size]? = some (.cells #[.int .i64 kd, .int .i64 n, .int .i64 af, .int .i64 ac] 32 (0, 0))
  ret : W.heap[w.heap.size + 1]? = some (.cells #[.bool false] 4 (0, 0))
  row : W.heap[z + 1]? = some (.cells #[.pointer none, .pointer (some ⟨z, 0, none⟩)] 25 (0, 0))
  zero : W.heap[z]? = some (.cells Tryd.zeroCells55 55 (0, 0))
  same : Same w W
  lo : w.heap.size + 2 ≤ z
  ks : ∀ p ∈ L, W.heap[p.1]? = some p.2
theorem NB.keep {w : World} {kd n af ac : Int} {z : Nat} {L : List (Nat × Obj)} {W W' : World} (h : NB w kd n af ac z L W) (k : Same W W') : NB w kd n af ac z L W' :=
  ⟨blk_kept k (fun h => h) h.op, blk_kept k (fun h => h) h.ret, blk_kept k (fun h => h) h.row, blk_kept k (fun h => h) h.zero, h.same.trans k, h.lo, fun p hp => blk_kept k (fun h => h) (h.ks p hp)⟩
theorem NB.far {w : World} {kd n af ac : Int} {z : Nat} {L : List (Nat × Obj)} {W W' : World} {N : Nat} (h : NB w kd n af ac z L W) (k : Kept (fun j => N ≤ j) W W') (hN : z + 2 ≤ N) (hL : ∀ p ∈ L, p.1 < N) : NB w kd n af ac z L W' := by
  have l := h.lo
  exact ⟨blk_kept k (by omega) h.op, blk_kept k (by omega) h.ret, blk_kept k (by omega) h.row, blk_kept k (by omega) h.zero, h.same.trans' k (fun i hi hs => by omega), h.lo, fun p hp => blk_kept k (by have := hL p hp; omega) (h.ks p hp)⟩
theorem zc_count : Tryd.zeroCells55[1]? = some (.int .i64 0) := by kernel_rfl
theorem NB.no0 {w : World} {kd n af ac : Int} {z : Nat} {L : List (Nat × Obj)} {W : World} (h : NB w kd n af ac z L W) : NoSp (.pointer none) W := .inl rfl
theorem NB.no1 {w : World} {kd n af ac : Int} {z : Nat} {L : List (Nat × Obj)} {W : World} (h : NB w kd n af ac z L W) : NoSp (.pointer (some ⟨z, 0, none⟩)) W := .inr ⟨z, rfl, (blk_cell h.zero).trans zc_count⟩
theorem NB.c1 {w : World} {kd n af ac : Int} {z : Nat} {L : List (Nat × Obj)} {W : World} (h : NB w kd n af ac z L W) : W.cell? ⟨w.heap.size, 1, none⟩ = some (.int .i64 n) := blk_cell h.op
theorem NB.c2 {w : World} {kd n af ac : Int} {z : Nat} {L : List (Nat × Obj)} {W : World} (h : NB w kd n af ac z L W) : W.cell? ⟨w.heap.size, 2, none⟩ = some (.int .i64 af) := blk_cell h.op
theorem NB.c3 {w : World} {kd n af ac : Int} {z : Nat} {L : List (Nat × Obj)} {W : World} (h : NB w kd n af ac z L W) : W.cell? ⟨w.heap.size, 3, none⟩ = some (.int .i64 ac) := blk_cell h.op
theorem NB.r0 {w : World} {kd n af ac : Int} {z : Nat} {L : List (Nat × Obj)} {W : World} (h : NB w kd n af ac z L W) : W.cell? ⟨z + 1, 0, none⟩ = some (.pointer none) := blk_cell h.row
theorem NB.r1 {w : World} {kd n af ac : Int} {z : Nat} {L : List (Nat × Obj)} {W : World} (h : NB w kd n af ac z L W) : W.cell? ⟨z + 1, 1, none⟩ = some (.pointer (some ⟨z, 0, none⟩)) := blk_cell h.row
set_option maxHeartbeats 8000000 in
set_option maxRecDepth 100000 in
theorem spnob_walk (kd n af ac : Int) (w : World) (_ : I64 kd) (_ : I64 n) (_ : I64 af) (_ : I64 ac) (hT : Tab w) :
    Calls Tryd.prog 9 #[.agg #[.int .i64 kd, .int .i64 n, .int .i64 af, .int .i64 ac]] w fun e w' => e = .returned (.bool true) ∧ Same w w' := by
  have HA := hidden (fun W (k : Same w W) => (callsIn_wide (n := 5)).2 (aw_any W (hT.same k)))
  have HRf := hidden (fun v w => (callsIn_wide (n := 5)).2 (runs_fn v w))
  clear hT
  refine (callsIn_wide (n := 6)).1 ?_
  refine callsIn_of_wp_marks Tryd.func9 rfl trivial ?_ rfl
  simp only [Tryd.ntmps9, List.size_toArray, List.length_cons, List.length_nil, Nat.reduceAdd, Nat.reduceSub, Array.replicate_succ, Array.replicate_zero, List.push_toArray, List.append_toArray, List.nil_append, List.cons_append]
  gi_wp2_with (refine ⟨trivial, ?_⟩; gi_at_call 27; refine (HA.out _ (((Kept.refl _ w).alloc _).alloc _)).mono ?_; rintro e w1 ⟨rfl, k1⟩; have K1 := hidden k1; clear k1)
  have e2 : ∀ (W : World) (o : Obj), (W.alloc o).heap.size = W.heap.size + 1 := fun W o => by simp
  have hz1 : w.heap.size + 2 ≤ w1.heap.size := by have h := K1.out.size; rw [e2, e2] at h; exact h
  have H0 : Hid (NB w kd n af ac w1.heap.size [] ((w1.alloc (.cells Tryd.zeroCells55 55)).alloc (.cells #[.pointer none, .pointer (some ⟨w1.heap.size, 0, none⟩)] 25))) := by
    have b0 := blk_kept K1.out (fun h => h) (blk_alloc (blk_new w (.cells #[.int .i64 kd, .int .i64 n, .int .i64 af, .int .i64 ac] 32)) (.cells #[.bool false] 4))
    have b1 := blk_kept K1.out (fun h => h) (blk_new (w.alloc (.cells #[.int .i64 kd, .int .i64 n, .int .i64 af, .int .i64 ac] 32)) (.cells #[.bool false] 4))
    rw [e2] at b1
    have b2 := blk_new (w1.alloc (.cells Tryd.zeroCells55 55)) (.cells #[.pointer none, .pointer (some ⟨w1.heap.size, 0, none⟩)] 25)
    rw [e2] at b2
    exact ⟨blk_alloc (blk_alloc b0 _) _, blk_alloc (blk_alloc b1 _) _, b2, blk_alloc (blk_new w1 _) _, (((((Kept.refl _ w).alloc _).alloc _).trans K1.out).alloc _).alloc _, hz1, by simp⟩
  generalize (w1.alloc (.cells Tryd.zeroCells55 55)).alloc (.cells #[.pointer none, .pointer (some ⟨w1.heap.size, 0, none⟩)] 25) = WA0 at *
  obtain ⟨z, hz⟩ : ∃ z, z = w1.heap.size := ⟨_, rfl⟩
  rw [← hz] at H0 hz1 ⊢
  clear K1 hz e2 HA
  refine wpIn_loop_rounds 3 ?_
  have HA0 := H0
  rw [roundsIn_succ]
  have c1 := HA0.out.c1
  have c2 := HA0.out.c2
  have c3 := HA0.out.c3
  have r9 := HA0.out.r0
  gi_wp2_with (first
        | (refine ⟨trivial, ?_⟩; gi_at_call 15; refine ((callsIn_wide (n := 5)).2 (no_Take none n _ (HA0.out.no0))).mono ?_; rintro e HA1w ⟨rfl, kk⟩; have HA1 := hidden (HA0.out.keep kk); clear kk c1 c2 c3; have c1 := HA1.out.c1; have c2 := HA1.out.c2; have c3 := HA1.out.c3)
        | (refine ⟨trivial, ?_⟩; gi_at_call 21; refine ((callsIn_wide (n := 5)).2 (no_Mark (.pointer none) af ac _ (HA1.out.no0))).mono ?_; rintro e HA2w ⟨rfl, kk⟩; have HA2 := hidden (HA1.out.keep kk); clear kk c1 c2 c3; have c1 := HA2.out.c1; have c2 := HA2.out.c2; have c3 := HA2.out.c3)
        | (refine ⟨trivial, ?_⟩; gi_at_call 16; refine ((callsIn_wide (n := 5)).2 (no_Free (.pointer none) af ac _ (HA2.out.no0))).mono ?_; rintro e HA3w ⟨rfl, kk⟩; have HA3 := hidden (HA2.out.keep kk); clear kk c1 c2 c3; have c1 := HA3.out.c1; have c2 := HA3.out.c2; have c3 := HA3.out.c3)
        | (refine ⟨trivial, ?_⟩; gi_at_call 17; refine ((callsIn_wide (n := 5)).2 (no_Later (.pointer none) af ac _ (HA3.out.no0))).mono ?_; rintro e HA4w ⟨rfl, kk⟩; have HA4 := hidden (HA3.out.keep kk); clear kk c1 c2 c3; have c1 := HA4.out.c1; have c2 := HA4.out.c2; have c3 := HA4.out.c3)
        | (refine ⟨trivial, ?_⟩; gi_at_call 19; refine ((callsIn_wide (n := 5)).2 (no_Reserve (.pointer none) n _ (HA4.out.no0))).mono ?_; rintro e Aq ⟨rfl, rfl⟩)
        | (refine ⟨trivial, ?_⟩; gi_at_call 20; refine ((callsIn_wide (n := 5)).2 (no_Release (.pointer none) n _ (HA4.out.no0))).mono ?_; rintro e Aq ⟨rfl, rfl⟩)
        | (refine ⟨trivial, ?_⟩; gi_at_call 18; refine ((callsIn_wide (n := 5)).2 (no_Settle (.pointer none) _ (HA4.out.no0))).mono ?_; rintro e Aq ⟨rfl, rfl⟩)
        | (refine ⟨trivial, ?_⟩; gi_at_call 25; refine ((callsIn_wide (n := 5)).2 (no_Left (.pointer none) _ (HA4.out.no0))).mono ?_; rintro e Aq ⟨rfl, rfl⟩)
        | (refine ⟨trivial, ?_⟩; gi_at_call 23; refine ((callsIn_wide (n := 5)).2 (no_Used (.pointer none) _ (HA4.out.no0))).mono ?_; rintro e Aq ⟨rfl, rfl⟩)
        | (refine ⟨trivial, ?_⟩; gi_at_call 24; refine ((callsIn_wide (n := 5)).2 (no_Waiting (.pointer none) _ (HA4.out.no0))).mono ?_; rintro e Aq ⟨rfl, rfl⟩)
        | (refine ⟨trivial, ?_⟩; gi_at_call 28; refine ((callsIn_wide (n := 5)).2 (no_Has (.pointer none) n _ (HA4.out.no0))).mono ?_; rintro e HA5w ⟨rfl, kk⟩; have HA5 := hidden (HA4.out.keep kk); clear kk c1 c2 c3; have c1 := HA5.out.c1; have c2 := HA5.out.c2; have c3 := HA5.out.c3)
        | (refine ⟨trivial, ?_⟩; gi_at_call 29; refine ((callsIn_wide (n := 5)).2 (no_Bits (.pointer none) _ (HA5.out.no0))).mono ?_; rintro e HA6w ⟨rfl, kk⟩; have HA6 := hidden (HA5.out.keep kk); clear kk c1 c2 c3; have c1 := HA6.out.c1; have c2 := HA6.out.c2; have c3 := HA6.out.c3)
        | (refine ⟨trivial, ?_⟩; gi_at_call 13; refine ((callsIn_wide (n := 5)).2 (no_Fork (.pointer none) _ (HA6.out.no0))).mono ?_; rintro e HA7w ⟨rfl, kk⟩; have HA7 := hidden (HA6.out.keep kk); clear kk c1 c2 c3; have c1 := HA7.out.c1; have c2 := HA7.out.c2; have c3 := HA7.out.c3)
        | (refine ⟨trivial, ?_⟩; gi_at_call 22; refine (HRf.out _ _).mono ?_; rintro e WA ⟨rfl, hw⟩; have EA := hidden hw; clear hw))
  have kFA : Same HA7w WA := by rw [← EA.out]; exact same_alloc _ _
  have HA8 := hidden (HA7.out.keep kFA)
  have sA : WA.heap.size = HA7w.heap.size + 1 := by rw [← EA.out]; simp
  have zA : z + 2 ≤ HA7w.heap.size := by have := blk_lt HA7.out.row; omega
  have BA : WA.heap[HA7w.heap.size]? = some (.cells #[.pointer none] 25 (0, 0)) := by rw [← EA.out]; exact blk_new _ _
  have hrunA := no_runs WA HA7w.heap.size none BA HA8.out.no0
  clear c1 c2 c3 r9 EA BA
  refine wpIn_rangeFunc_ownH rfl (by decide) (gf := 51) (lb := #[.pointer (some ⟨HA7w.heap.size, 0, none⟩)]) rfl trivial (enters_of Tryd.func51 (by kernel_rfl) rfl)
    hrunA (fun h k => h.trans k) (fun W l o o' _ hl ho _ => KC.putObj _ W l o o' hl ho) (Below.refl _ _) (fun x => x.elim)
    (fun _ W => NB w kd n af ac z [] W) (fun _ _ _ => False)
    (fun pre A B row hs hg hr => hs.far (kept_of_grown hg hr) (by omega) (by simp)) (fun c pre A B row hs hg hr => hs) HA8.out
    (fun _ _ _ => True) (fun _ _ _ _ _ _ _ _ _ => trivial) ?assignA ?bodyA ?doneA ?stopA
  case assignA =>
    intro l pre x
    exact x.elim
  case bodyA =>
    intro l pre x
    exact x.elim
  case stopA =>
    rintro D c pre W _ hp
    exact hp.elim
  case doneA =>
    rintro DA ys VA hDA rfl hIA hKA
    have HB0 : Hid (NB w kd n af ac z [(DA, .deferred (some []))] VA) := ⟨hIA.op, hIA.ret, hIA.row, hIA.zero, hIA.same, hIA.lo, fun p hp => by rw [List.mem_singleton.1 hp]; exact hKA⟩
    have dA := blk_lt hKA
    clear hIA hKA
    gi_wp2
    rw [roundsIn_succ]
    have c1 := HB0.out.c1
    have c2 := HB0.out.c2
    have c3 := HB0.out.c3
    have r9 := HB0.out.r1
    gi_wp2_with (first
          | (refine ⟨trivial, ?_⟩; gi_at_call 15; refine ((callsIn_wide (n := 5)).2 (no_Take (some ⟨z, 0, none⟩) n _ (HB0.out.no1))).mono ?_; rintro e HB1w ⟨rfl, kk⟩; have HB1 := hidden (HB0.out.keep kk); clear kk c1 c2 c3; have c1 := HB1.out.c1; have c2 := HB1.out.c2; have c3 := HB1.out.c3)
          | (refine ⟨trivial, ?_⟩; gi_at_call 21; refine ((callsIn_wide (n := 5)).2 (no_Mark (.pointer (some ⟨z, 0, none⟩)) af ac _ (HB1.out.no1))).mono ?_; rintro e HB2w ⟨rfl, kk⟩; have HB2 := hidden (HB1.out.keep kk); clear kk c1 c2 c3; have c1 := HB2.out.c1; have c2 := HB2.out.c2; have c3 := HB2.out.c3)
          | (refine ⟨trivial, ?_⟩; gi_at_call 16; refine ((callsIn_wide (n := 5)).2 (no_Free (.pointer (some ⟨z, 0, none⟩)) af ac _ (HB2.out.no1))).mono ?_; rintro e HB3w ⟨rfl, kk⟩; have HB3 := hidden (HB2.out.keep kk); clear kk c1 c2 c3; have c1 := HB3.out.c1; have c2 := HB3.out.c2; have c3 := HB3.out.c3)
          | (refine ⟨trivial, ?_⟩; gi_at_call 17; refine ((callsIn_wide (n := 5)).2 (no_Later (.pointer (some ⟨z, 0, none⟩)) af ac _ (HB3.out.no1))).mono ?_; rintro e HB4w ⟨rfl, kk⟩; have HB4 := hidden (HB3.out.keep kk); clear kk c1 c2 c3; have c1 := HB4.out.c1; have c2 := HB4.out.c2; have c3 := HB4.out.c3)
          | (refine ⟨trivial, ?_⟩; gi_at_call 19; refine ((callsIn_wide (n := 5)).2 (no_Reserve (.pointer (some ⟨z, 0, none⟩)) n _ (HB4.out.no1))).mono ?_; rintro e Bq ⟨rfl, rfl⟩)
          | (refine ⟨trivial, ?_⟩; gi_at_call 20; refine ((callsIn_wide (n := 5)).2 (no_Release (.pointer (some ⟨z, 0, none⟩)) n _ (HB4.out.no1))).mono ?_; rintro e Bq ⟨rfl, rfl⟩)
          | (refine ⟨trivial, ?_⟩; gi_at_call 18; refine ((callsIn_wide (n := 5)).2 (no_Settle (.pointer (some ⟨z, 0, none⟩)) _ (HB4.out.no1))).mono ?_; rintro e Bq ⟨rfl, rfl⟩)
          | (refine ⟨trivial, ?_⟩; gi_at_call 25; refine ((callsIn_wide (n := 5)).2 (no_Left (.pointer (some ⟨z, 0, none⟩)) _ (HB4.out.no1))).mono ?_; rintro e Bq ⟨rfl, rfl⟩)
          | (refine ⟨trivial, ?_⟩; gi_at_call 23; refine ((callsIn_wide (n := 5)).2 (no_Used (.pointer (some ⟨z, 0, none⟩)) _ (HB4.out.no1))).mono ?_; rintro e Bq ⟨rfl, rfl⟩)
          | (refine ⟨trivial, ?_⟩; gi_at_call 24; refine ((callsIn_wide (n := 5)).2 (no_Waiting (.pointer (some ⟨z, 0, none⟩)) _ (HB4.out.no1))).mono ?_; rintro e Bq ⟨rfl, rfl⟩)
          | (refine ⟨trivial, ?_⟩; gi_at_call 28; refine ((callsIn_wide (n := 5)).2 (no_Has (.pointer (some ⟨z, 0, none⟩)) n _ (HB4.out.no1))).mono ?_; rintro e HB5w ⟨rfl, kk⟩; have HB5 := hidden (HB4.out.keep kk); clear kk c1 c2 c3; have c1 := HB5.out.c1; have c2 := HB5.out.c2; have c3 := HB5.out.c3)
          | (refine ⟨trivial, ?_⟩; gi_at_call 29; refine ((callsIn_wide (n := 5)).2 (no_Bits (.pointer (some ⟨z, 0, none⟩)) _ (HB5.out.no1))).mono ?_; rintro e HB6w ⟨rfl, kk⟩; have HB6 := hidden (HB5.out.keep kk); clear kk c1 c2 c3; have c1 := HB6.out.c1; have c2 := HB6.out.c2; have c3 := HB6.out.c3)
          | (refine ⟨trivial, ?_⟩; gi_at_call 13; refine ((callsIn_wide (n := 5)).2 (no_Fork (.pointer (some ⟨z, 0, none⟩)) _ (HB6.out.no1))).mono ?_; rintro e HB7w ⟨rfl, kk⟩; have HB7 := hidden (HB6.out.keep kk); clear kk c1 c2 c3; have c1 := HB7.out.c1; have c2 := HB7.out.c2; have c3 := HB7.out.c3)
          | (refine ⟨trivial, ?_⟩; gi_at_call 22; refine (HRf.out _ _).mono ?_; rintro e WB ⟨rfl, hw⟩; have EB := hidden hw; clear hw))
    have kFB : Same HB7w WB := by rw [← EB.out]; exact same_alloc _ _
    have HB8 := hidden (HB7.out.keep kFB)
    have sB : WB.heap.size = HB7w.heap.size + 1 := by rw [← EB.out]; simp
    have zB : z + 2 ≤ HB7w.heap.size := by have := blk_lt HB7.out.row; omega
    have BB : WB.heap[HB7w.heap.size]? = some (.cells #[.pointer (some ⟨z, 0, none⟩)] 25 (0, 0)) := by rw [← EB.out]; exact blk_new _ _
    have hrunB := no_runs WB HB7w.heap.size (some ⟨z, 0, none⟩) BB HB8.out.no1
    have dB : DA < WB.heap.size := blk_lt (HB8.out.ks _ (List.mem_singleton.2 rfl))
    clear c1 c2 c3 r9 EB BB
    refine wpIn_rangeFunc_ownH rfl (by decide) (gf := 51) (lb := #[.pointer (some ⟨HB7w.heap.size, 0, none⟩)]) rfl trivial (enters_of Tryd.func51 (by kernel_rfl) rfl)
      hrunB (fun h k => h.trans k) (fun W l o o' _ hl ho _ => KC.putObj _ W l o o' hl ho) (Below.refl _ _) (fun x => x.elim)
      (fun _ W => NB w kd n af ac z [(DA, .deferred (some []))] W) (fun _ _ _ => False)
      (fun pre A B row hs hg hr => hs.far (kept_of_grown hg hr) (by omega) (by simp; omega)) (fun c pre A B row hs hg hr => hs) HB8.out
      (fun _ _ _ => True) (fun _ _ _ _ _ _ _ _ _ => trivial) ?assignB ?bodyB ?doneB ?stopB
    case assignB =>
      intro l pre x
      exact x.elim
    case bodyB =>
      intro l pre x
      exact x.elim
    case stopB =>
      rintro D c pre W _ hp
      exact hp.elim
    case doneB =>
      rintro DB ys VB hDB rfl hIB hKB
      have HC := hidden hIB
      have KB := hidden hKB
      clear hIB hKB
      gi_wp2
      rw [roundsIn_succ]
      have f1 : VB.frozen? ⟨w.heap.size + 1, 0, none⟩ = false := blk_free HC.out.ret
      have d1 : VB.cell? ⟨w.heap.size + 1, 0, none⟩ = some (.bool false) := blk_cell HC.out.ret
      gi_wp2
      have hA : DA ≠ DB := by omega
      have kk : Kept (fun j => j = w.heap.size + 1) VB (VB.setCell ⟨w.heap.size + 1, 0, none⟩ (.bool true)) := (Kept.refl (fun j => j = w.heap.size + 1) VB).setCell (p := ⟨w.heap.size + 1, 0, none⟩) rfl _
      have e3 := blk_kept kk (by omega) KB.out
      have e5 := blk_kept kk (by omega) (HC.out.ks _ (List.mem_singleton.2 rfl))
      have b3 : (VB.setCell ⟨w.heap.size + 1, 0, none⟩ (.bool true)).heap[w.heap.size + 1]? = some (.cells #[.bool true] 4 (0, 0)) := blk_set HC.out.ret _
      have sm : Same w (VB.setCell ⟨w.heap.size + 1, 0, none⟩ (.bool true)) := Kept.trans' HC.out.same kk (fun i hi e => by omega)
      generalize VB.setCell ⟨w.heap.size + 1, 0, none⟩ (.bool true) = V at *
      have e4 : (V.putObj DB (.deferred none)).heap[DA]? = some (.deferred (some [])) := blk_kept (kept_putObj (S := fun k => k = DB) V DB _ rfl) hA e5
      have b4 := blk_kept (kept_putObj (S := fun k => k = DB) V DB (.deferred none) rfl) (by omega) b3
      have c5 : ((V.putObj DB (.deferred none)).putObj DA (.deferred none)).cell? ⟨w.heap.size + 1, 0, none⟩ = some (.bool true) := blk_cell (blk_kept (kept_putObj (S := fun k => k = DA) _ DA _ rfl) (by omega) b4)
      refine ⟨by simp, .inl ⟨_, _, rfl, run_takeDeferred e3, ?_⟩⟩
      refine ⟨by simp, .inl ⟨_, _, rfl, run_takeDeferred e4, ?_⟩⟩
      refine ⟨.bool true, by simp [results, Tryd.results9, go_sem, c5], rfl, ?_⟩
      exact Kept.trans' sm ((kept_putObj (S := fun k => w.heap.size ≤ k) V DB _ (by omega)).trans (kept_putObj (S := fun k => w.heap.size ≤ k) _ DA _ (by omega))) (fun i hi e => by omega)
end Go.Proofs.YtbmbdidmbdanmaaDoor
namespace Go.Proofs.YtbmbdidmbdanmaaDoor.SpaceNobody
open Go.ChangeShapes Go.WideShapes Go.ChangeAt Go.RowKit Go.Joins Go.ChangeMaps
set_option maxRecDepth 100000 in
theorem contract (H : Type) (enc : TypeId × Value → H) (W : World) (base : Nat) (args : Array Value) (ds gs : List (DataW H)) (before : List MemPlace)
    (hval : ∀ (j : Nat) t v, Tryd.f9.params[j]? = some t → args[j]? = some v → Value.okWide Tryd.prog W .any base t v)
    (hW : DataW.Whole enc Tryd.prog Tryd.f9.params.toList Rows.spaceNobodySpec.vars false W args.toList ds gs before)
    (hsz : (DataW.weightsEach Tryd.prog (Tryd.f9.params.toList ++ (OpenSpec.ofChange Rows.spaceNobodySpec).bare.plain.varTypes Tryd.prog) (ds ++ gs)).all (· ≤ reachBytes) = true)
    (hL : laidMetH Tryd.prog Rows.spaceNobodyRow.laid W) :
    Calls Tryd.prog 9 args W fun e W' => ∃ v, e = .returned v ∧ Rows.spaceNobodySpec.post enc Tryd.prog Tryd.f9 false true false false W args v W' := by
  have hW' := hW
  obtain ⟨p, q, hA0, hV, rfl, hfz, hnd⟩ := hW
  have hA : DataW.TrodAll enc Tryd.prog W 0 (fun _ => true) true Tryd.f9.params.toList args.toList ds p := hA0
  rw [Tryd.params9] at hA hval hsz
  obtain ⟨v0, vs0, d0, ds0, p0, q0, hargs, rfl, rfl, h0, r0⟩ := trodAll_cons hA
  obtain ⟨rfl, rfl, rfl⟩ := trodAll_nil r0
  obtain rfl : args = #[v0] := by cases args; simp_all
  obtain ⟨rfl, rfl⟩ := trodVars_none hV
  obtain ⟨kd_o, n_o, af_o, ac_o, rfl, b0_o, b1_o, b2_o, b3_o⟩ := op_open (hval 0 32 v0 rfl rfl) h0
  refine (spnob_walk kd_o n_o af_o ac_o W b0_o b1_o b2_o b3_o (tab_laid hL)).mono fun e W' ⟨he, hg⟩ => ?_
  subst he
  exact ⟨_, rfl, law_post laidOut (by rw [Tryd.params9]; decide +kernel) rfl hW' rfl Tryd.underlying4 ⟨rfl, rfl, rfl⟩ (hg.below (Nat.le_refl _) fun _ h => h.elim)⟩
set_option maxRecDepth 100000 in
theorem lifted (os : Os) (started : os.Started) (H : Type) (enc : TypeId × Value → H) (F : Stop.Interp) :
    ReturnsInHanded {} Tryd.checked os 9 .any ((OpenSpec.ofChange Rows.spaceNobodySpec).preRow enc Tryd.prog Tryd.f9 Rows.spaceNobodyRow.domain false Rows.spaceNobodyRow.laid) (((OpenSpec.ofChange Rows.spaceNobodySpec).at F).post enc Tryd.prog Tryd.f9 false true false false) := by
  refine returnsInHanded_of_row (C := Tryd.checked) (s := OpenSpec.ofChange Rows.spaceNobodySpec) own started (by kernel_rfl) Tryd.func9
    (witness_row_at (enc := enc) (C := Tryd.checked) false (tabWorld (World.holding Tryd.prog os ⟨#[], #[], []⟩)) #[.agg #[.int .i64 0, .int .i64 0, .int .i64 0, .int .i64 0]] rfl (by kernel_rfl) (by kernel_rfl) (by kernel_rfl)
      (OpenSpec.preRow_of_cond (x := ([.agg [.lit (.int .i64 0), .lit (.int .i64 0), .agg [.lit (.int .i64 0), .lit (.int .i64 0)]]], [], [])) 8 (by kernel_rfl) (by kernel_rfl) (fun k hk => by cases hk) (by kernel_rfl) (laidMet_of_run' 8 (by kernel_rfl) (by kernel_rfl)))) ?_
  intro W base args ds gs before hval hW _ _ hsz hL _ _
  exact contract H enc W base args ds gs before hval hW hsz hL
theorem said : Rows.SpaceNobodySaid :=
  OpenClaim.holds_of_cond 9 Tryd.f9 rfl rfl rfl rfl rfl rfl rfl ⟨rfl, rfl, rfl, rfl, rfl⟩ rfl rfl rfl rfl rfl (by kernel_rfl) Tryd.func9 (by kernel_rfl)
    (of_decide_eq_true (by kernel_rfl)) (by unfold Func.isWrapper; first | (rw [if_pos (by decide +kernel)]; kernel_rfl) | (rw [if_neg (by decide +kernel)]; exact ⟨rfl, rfl⟩))
    (fun os started H enc _ F => by rw [OpenClaim.pre_eq_preRow]; exact lifted os started H enc F)
theorem plain (f : FuncId) (fn : Func) (hf : Tryd.pinned.checked.prog.funcNamed Rows.spaceNobodyRow.func = some f) (hfn : Tryd.pinned.checked.prog.funcs[f]? = some fn) :
    false = Tryd.pinned.checked.prog.looks [] ∧ ∀ (j : Nat) t, fn.params[j]? = some t → Tryd.pinned.checked.prog.wantsStandIn t = false := by
  obtain rfl : f = 9 := Option.some.inj ((show Tryd.prog.funcNamed Rows.spaceNobodyRow.func = some 9 by kernel_rfl).symm.trans hf) |>.symm
  obtain rfl : fn = Tryd.f9 := (Option.some.inj (Tryd.func9.symm.trans hfn)).symm
  refine ⟨by kernel_rfl, fun j t ht => ?_⟩
  rw [Tryd.params9] at ht
  have hm : t ∈ [32] := by simpa using Array.mem_of_getElem? ht
  have hall : [32].all (fun t => !Tryd.prog.wantsStandIn t) = true := by kernel_rfl
  have h1 := List.all_eq_true.1 hall t hm
  have h2 : Tryd.prog.wantsStandIn t = false := by simpa using h1
  exact h2
theorem card : Rows.SpaceNobodyCardSaid :=
  Claim7.holds_tied_plain_at .later [] _ _ _ _ said (fun _ h => by cases h) (by kernel_rfl) (fun _ h => by cases h) spaceNobody_row_tie rfl ⟨rfl, rfl⟩ (by kernel_rfl) rfl plain (by kernel_rfl)
end Go.Proofs.YtbmbdidmbdanmaaDoor.SpaceNobody
namespace Go.Proofs.YtbmbdidmbdanmaaDoor
theorem spaceNobody_card : Rows.SpaceNobodyCardSaid := SpaceNobody.card
end Go.Proofs.YtbmbdidmbdanmaaDoor
