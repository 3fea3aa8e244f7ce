/- Reslices; the document's table: Get, Open, Close. -/
import Derived.Test.YtiffkcffcjembaaH8
namespace Go.Proofs.Ytiffkcffcjembaa
open Go.RowKit Go.Maps
set_option linter.unusedVariables false
set_option linter.unusedSimpArgs false
theorem sub_lies {w : World} {B e s n c : Nat} {a : Option Addr} {xs : List Value} (h : w.ownsRow B e s (.slice a n c) n xs) (lo m : Nat) (hm : lo + m ≤ n) : Lies w (if c = lo then a else a.map (·.add (lo * s))) m ((xs.drop (lo * s)).take (m * s)) := by
  intro hm0
  obtain ⟨g, cap, e1, hc, _, _, hcell⟩ := own_at h (by omega)
  obtain ⟨rfl, _, rfl⟩ : a = some ⟨g, 0, none⟩ ∧ True ∧ c = cap := by simpa using e1
  refine ⟨⟨g, lo * s, none⟩, ?_, fun j u hu => ?_⟩
  · rw [if_neg (by omega)]
    simp [Addr.add_mid]
  · rw [Addr.add_mid]
    rw [List.getElem?_take] at hu
    split at hu
    · rw [List.getElem?_drop] at hu
      exact hcell _ _ hu
    · cases hu
theorem size_h (W : World) : (sizeOf (Try.prog.elem 27)).run Try.prog W = .ok 3 W := by kernel_rfl
theorem size_i (W : World) : (sizeOf (Try.prog.elem 53)).run Try.prog W = .ok 1 W := by kernel_rfl
theorem und_h : Try.prog.underlying 27 = some (.slice (Try.prog.elem 27)) := by kernel_rfl
theorem und_i : Try.prog.underlying 53 = some (.slice (Try.prog.elem 53)) := by kernel_rfl
theorem sl_to {T s : Nat} (ht : Try.prog.underlying T = some (.slice (Try.prog.elem T))) (hs : ∀ W, (sizeOf (Try.prog.elem T)).run Try.prog W = .ok s W) (a : Option Addr) (k c cn : Nat) (h : cn ≤ k) (hc : k ≤ c) (W : World) :
    (Instr.sliceAt T (.slice a k c) none (some (.int .i64 (cn : Int))) none).run Try.prog W = .ok (.slice (if c = 0 then a else a.map (·.add (0 * s))) cn c) W := by
  rw [run_sliceAt_slice (h := ht), run_slice_h (ht := ht) (h0 := by omega) (h2 := by omega), hs]
  simp [sliced]
theorem sl_from {T s : Nat} (ht : Try.prog.underlying T = some (.slice (Try.prog.elem T))) (hs : ∀ W, (sizeOf (Try.prog.elem T)).run Try.prog W = .ok s W) (a : Option Addr) (k c cn : Nat) (h : cn ≤ k) (hc : k ≤ c) (W : World) :
    (Instr.sliceAt T (.slice a k c) (some (.int .i64 (cn : Int))) none none).run Try.prog W = .ok (.slice (if c = cn then a else a.map (·.add (cn * s))) (k - cn) (c - cn)) W := by
  rw [run_sliceAt_slice (h := ht), run_slice_l (ht := ht) (h0 := by omega) (h1 := by omega), hs]
  simp [sliced]
theorem c3_take (l : List HT) (k : Nat) : (c3 l).take (k * 3) = c3 (l.take k) := by
  by_cases h : k ≤ l.length
  · have e : c3 l = c3 (l.take k) ++ c3 (l.drop k) := by rw [← c3_app, List.take_append_drop]
    have hl : (c3 (l.take k)).length = k * 3 := by rw [c3_len, List.length_take]; congr 1; omega
    rw [e, List.take_append_of_le_length (by omega), List.take_of_length_le (by omega)]
  · rw [List.take_of_length_le (by rw [c3_len]; omega), List.take_of_length_le (by omega)]
theorem c3_drop (l : List HT) (k : Nat) : (c3 l).drop (k * 3) = c3 (l.drop k) := by
  by_cases h : k ≤ l.length
  · have e : c3 l = c3 (l.take k) ++ c3 (l.drop k) := by rw [← c3_app, List.take_append_drop]
    have hl : (c3 (l.take k)).length = k * 3 := by rw [c3_len, List.length_take]; congr 1; omega
    rw [e, List.drop_append_of_le_length (by omega), List.drop_of_length_le (by omega), List.nil_append]
  · rw [List.drop_of_length_le (by rw [c3_len]; omega), List.drop_of_length_le (by omega)]; rfl
theorem fin3 {w : World} {g : Nat} {a b c : Value} {t : TypeId} (h : w.heap[g]? = some (.cells #[a, b, c] t (0, 0))) (x y z : Value) :
    (((w.setCell ⟨g, 0, none⟩ x).setCell ⟨g, 1, none⟩ y).setCell ⟨g, 2, none⟩ z).cell? ⟨g, 0, none⟩ = some x ∧ (((w.setCell ⟨g, 0, none⟩ x).setCell ⟨g, 1, none⟩ y).setCell ⟨g, 2, none⟩ z).cell? ⟨g, 1, none⟩ = some y ∧ (((w.setCell ⟨g, 0, none⟩ x).setCell ⟨g, 1, none⟩ y).setCell ⟨g, 2, none⟩ z).cell? ⟨g, 2, none⟩ = some z := by
  have hb := blk_set (j := 2) (blk_set (j := 1) (blk_set (j := 0) h x) y) z
  exact ⟨(blk_cell hb).trans rfl, (blk_cell hb).trans rfl, (blk_cell hb).trans rfl⟩
set_option maxHeartbeats 1000000 in
set_option maxRecDepth 100000 in
theorem r_get_no (gr : Nat) (l : List HT) (x : Int) (w : World) (h : RT w gr l) (hl : l.length ≤ 64) (hno : ∀ p ∈ l, p.1 ≠ x) :
    Calls Try.prog 21 #[P0 gr, .int .i64 x] w fun e w' => e = .returned (.tuple #[.agg #[.int .i64 0, .int .i64 0, .int .i64 0], .int .i64 237]) ∧ Same w w' := by
  have hfi := hidden (fun W (k : Same w W) => r_find gr l x l.length (-1) W (h.same k) hl (Nat.le_refl _) (fun i p _ hp => hno p (List.mem_of_getElem? hp)) (fun p hp => by have := (List.getElem?_eq_some_iff.1 hp).1; omega) (hidden (fun h => by omega)) (hidden (fun _ => rfl)))
  go_enter Try.func21, Try.ntmps21
  go_wp2_with (first
    | (go_at_call 32; refine (hfi.out _ (same_alloc _ _)).mono ?_; rintro e w1 ⟨rfl, k1⟩; have hz : w.heap.size < w1.heap.size := (by have := k1.size; simp at this; omega); have hb := blk_kept k1 (fun h => h) (blk_new w (.cells #[.int .i64 0, .int .i64 0, .int .i64 0] 44)); have c0 := blk_cell (j := 0) hb; have c1 := blk_cell (j := 1) hb; have c2 := blk_cell (j := 2) hb; have f0 := (fun j => blk_free (j := j) hb); simp at c0 c1 c2; have HB := hidden hb; have K1 := hidden ((same_alloc w _).trans k1); clear hb k1))
  obtain ⟨q0, q1, q2⟩ := fin3 HB.out (.int .i64 0) (.int .i64 0) (.int .i64 0)
  have KF := hidden (Kept.setNew (p := ⟨w.heap.size, 2, none⟩) (Kept.setNew (p := ⟨w.heap.size, 1, none⟩) (Kept.setNew (p := ⟨w.heap.size, 0, none⟩) K1.out (Nat.le_refl _) (.int .i64 0)) (Nat.le_refl _) (.int .i64 0)) (Nat.le_refl _) (.int .i64 0))
  generalize ((w1.setCell ⟨w.heap.size, 0, none⟩ (.int .i64 0)).setCell ⟨w.heap.size, 1, none⟩ (.int .i64 0)).setCell ⟨w.heap.size, 2, none⟩ (.int .i64 0) = WF at *
  exact bodyPost_ret (v := .tuple #[.agg #[.int .i64 0, .int .i64 0, .int .i64 0], .int .i64 237]) (by simp [results, Try.results21, go_sem, q0, q1, q2]) rfl ⟨rfl, KF.out⟩
set_option maxHeartbeats 1000000 in
set_option maxRecDepth 100000 in
theorem r_get (gr : Nat) (l : List HT) (x : Int) (i : Nat) (a b : Int) (w : World) (h : RT w gr l) (hl : l.length ≤ 64) (hi : l[i]? = some (x, a, b)) (hno : ∀ j p, j < i → l[j]? = some p → p.1 ≠ x) :
    Calls Try.prog 21 #[P0 gr, .int .i64 x] w fun e w' => e = .returned (.tuple #[.agg #[.int .i64 x, .int .i64 a, .int .i64 b], .int .i64 0]) ∧ Same w w' := by
  have hil := (List.getElem?_eq_some_iff.1 hi).1
  have hfi := hidden (fun W (k : Same w W) => r_find gr l x i (i : Int) W (h.same k) hl (by omega) hno (fun p hp => by rw [hi] at hp; cases hp; rfl) (hidden (fun h => rfl)) (hidden (fun _ => by omega)))
  obtain ⟨v, hb, ho⟩ := h.ex
  obtain ⟨g, gc, rfl, hgc, _, _, hc⟩ := own_at ho (by omega)
  obtain ⟨t0, t1, t2⟩ := c3_at l i _ hi
  have d0 := hc _ _ t0
  have d1 := hc _ _ t1
  have d2 := hc _ _ t2
  have d3 : w.cell? ⟨gr, 0, none⟩ = some (.slice (some ⟨g, 0, none⟩) l.length gc) := (blk_cell hb).trans rfl
  have hgr := blk_lt hb
  have hlI : (i : Int) < l.length := by omega
  have D : Hid (w.cell? ⟨g, i * 3, none⟩ = some (.int .i64 x) ∧ w.cell? ⟨g, i * 3 + 1, none⟩ = some (.int .i64 a) ∧ w.cell? ⟨g, i * 3 + 2, none⟩ = some (.int .i64 b) ∧ w.cell? ⟨gr, 0, none⟩ = some (.slice (some ⟨g, 0, none⟩) l.length gc)) := hidden ⟨d0, d1, d2, d3⟩
  clear d0 d1 d2 d3 t0 t1 t2 hc ho hb hi hno
  go_enter Try.func21, Try.ntmps21
  go_wp2_with (first
    | (go_at_call 32; refine (hfi.out _ (same_alloc _ _)).mono ?_; rintro e w1 ⟨rfl, k1⟩; have hz : w.heap.size < w1.heap.size := (by have := k1.size; simp at this; omega); have hb := blk_kept k1 (fun h => h) (blk_new w (.cells #[.int .i64 0, .int .i64 0, .int .i64 0] 44)); have c0 := blk_cell (j := 0) hb; have c1 := blk_cell (j := 1) hb; have c2 := blk_cell (j := 2) hb; have f0 := (fun j => blk_free (j := j) hb); simp at c0 c1 c2; have HB := hidden hb; have k2 := (same_alloc w _).trans k1; have K1 := hidden k2; obtain ⟨d0, d1, d2, d3⟩ := D.out; have d0 := k2.cell (fun h => h) d0; have d1 := k2.cell (fun h => h) d1; have d2 := k2.cell (fun h => h) d2; have d3 := k2.cell (fun h => h) d3; clear hb k1 k2))
  obtain ⟨q0, q1, q2⟩ := fin3 HB.out (.int .i64 x) (.int .i64 a) (.int .i64 b)
  have KF := hidden (Kept.setNew (p := ⟨w.heap.size, 2, none⟩) (Kept.setNew (p := ⟨w.heap.size, 1, none⟩) (Kept.setNew (p := ⟨w.heap.size, 0, none⟩) K1.out (Nat.le_refl _) (.int .i64 x)) (Nat.le_refl _) (.int .i64 a)) (Nat.le_refl _) (.int .i64 b))
  generalize ((w1.setCell ⟨w.heap.size, 0, none⟩ (.int .i64 x)).setCell ⟨w.heap.size, 1, none⟩ (.int .i64 a)).setCell ⟨w.heap.size, 2, none⟩ (.int .i64 b) = WF at *
  exact bodyPost_ret (v := .tuple #[.agg #[.int .i64 x, .int .i64 a, .int .i64 b], .int .i64 0]) (by simp [results, Try.results21, go_sem, q0, q1, q2]) rfl ⟨rfl, KF.out⟩
end Go.Proofs.Ytiffkcffcjembaa
