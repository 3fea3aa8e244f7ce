/- The law's does at Close, Get, Count, Inodes, Clear, All and at no call. -/
import Derived.Test.YtiffkcffcjembaaH14
namespace Go.Proofs.Ytiffkcffcjembaa
open Go.RowKit Go.Maps
set_option linter.unusedVariables false
set_option linter.unusedSimpArgs false
set_option maxHeartbeats 2000000 in
set_option maxRecDepth 100000 in
theorem d_close (g bm gr : Nat) (f : FT) (n : Nat) (x fl : Int) (w : World) (h : PR w g bm gr f n) (hx : I64 x) (hf : I64 fl) (hn : n < 17592186044416) :
    Calls Try.prog 9 #[P0 g, P0 gr, .agg #[.int .i64 1, .int .i64 x, .int .i64 fl]] w fun e w' => e = .returned (.bool true) ∧ DOut g bm gr n w w' := by
  have H := hidden h
  have hgl := blk_lt h.t.blk
  have hbl : bm < w.heap.size := by obtain ⟨es, c, hb⟩ := h.t.mapblk; exact blk_lt hb
  have hrl : gr < w.heap.size := by obtain ⟨v, hb⟩ := h.r.blk; exact blk_lt hb
  have h0 := hidden (h.same (same_alloc w (.cells #[.int .i64 1, .int .i64 x, .int .i64 fl] 31)))
  have bx := hidden (boxed w 1 x fl)
  have K0 := hidden (same_alloc w (.cells #[.int .i64 1, .int .i64 x, .int .i64 fl] 31))
  have hol := ol_le f
  rcases isin_or f x with ⟨i, hi, rfl, hfi⟩ | hno
  · obtain ⟨e0, e1⟩ := ol_close f i hi hfi
    have hcs := cn_set f i (0, 0) (f i).1 64 hi
    rw [if_pos ⟨hfi, rfl⟩, if_neg (by rintro ⟨a, b⟩; exact a b.symm)] at hcs
    have hC : ci (os f 0 i ++ os f (i + 1) (63 - i)) (f i).1 (os f 0 i ++ os f (i + 1) (63 - i)).length = cn (f.set i (0, 0)) (f i).1 64 := by
      rw [← e0]; exact ci_all _ _
    have hL0 : ((cn (f.set i (0, 0)) (f i).1 64 : Int) == 0) = decide (cn f (f i).1 64 = 1) := by
      by_cases hh : cn f (f i).1 64 = 1
      · rw [decide_eq_true hh]
        have : cn (f.set i (0, 0)) (f i).1 64 = 0 := by omega
        rw [this]; rfl
      · rw [decide_eq_false hh]
        simp
        omega
    have hA : ∀ p ∈ os f 0 i, p.1 ≠ (i : Int) := fun p hp => by
      obtain ⟨j, _, hj, rfl, _⟩ := os_mem f 0 i p hp
      show (j : Int) ≠ i
      omega
    obtain ⟨LB, hLB⟩ : ∃ b, decide (cn f (f i).1 64 = 1) = b := ⟨_, rfl⟩
    rw [hLB] at hL0
    have hl2 : (os f 0 i ++ ([((i : Int), (f i).1, (f i).2)] ++ os f (i + 1) (63 - i))).length ≤ 64 := by rw [← e1]; exact hol
    have hr := hidden (fun W hW => r_close gr _ _ (os f 0 i).length (i : Int) (f i).1 (f i).2 _ LB W hW rfl hA hl2 hC hL0)
    have ht := hidden (fun W hW => h_close' g bm f n i (f i).1 LB W hW hi rfl hfi hLB (by omega))
    have E0 := hidden e0
    have E1 := hidden e1
    generalize (f i).1 = X at *
    clear h e0 e1 hC hL0 hLB hcs hl2 hA
    go_enter Try.func9, Try.ntmps9
    go_wp2_with (first
      | (go_at_call 14; refine (ht.out _ h0.out.t).mono ?_; rintro e w1 ⟨rfl, t1, k1⟩; have b1 := blk_kept k1 (fun h => by rcases h with h | h <;> omega) bx.out; have c1 := (blk_cell (j := 1) b1); have c2 := (blk_cell (j := 2) b1); simp at c1 c2; have R1 := hidden (h0.out.keepR k1); have T1 := hidden t1; have K1 := hidden k1; clear k1 b1 t1)
      | (go_at_call 20; refine (hr.out _ (E1.out ▸ R1.out)).mono ?_; rintro e w2 ⟨rfl, r2, k2⟩; rw [← E0.out] at r2; have R2 := hidden r2; have K2 := hidden k2; clear r2 k2))
    go_ret
    exact ⟨by simp, DOut.both H.out K0.out T1.out K1.out R2.out K2.out⟩
  · have hni := notin hno
    clear h
    go_enter Try.func9, Try.ntmps9
    go_wp2_with (first
      | (go_at_call 14; refine (h_close_no g bm _ _ x _ h0.out.t hx hno).mono ?_; rintro e w1 ⟨rfl, k1⟩; have b1 := blk_kept k1 (fun h => h) bx.out; have c1 := (blk_cell (j := 1) b1); have c2 := (blk_cell (j := 2) b1); simp at c1 c2; have P1 := hidden (h0.out.same k1); have K1 := hidden (K0.out.trans k1); clear k1 b1)
      | (go_at_call 20; refine (r_close_no gr _ x _ P1.out.r hol hni).mono ?_; rintro e w2 ⟨rfl, k2⟩; have K2 := hidden (K1.out.trans k2); clear k2))
    go_ret
    exact ⟨rfl, DOut.quiet H.out K2.out⟩
set_option maxHeartbeats 2000000 in
set_option maxRecDepth 100000 in
theorem d_get (g bm gr : Nat) (f : FT) (n : Nat) (x fl : Int) (w : World) (h : PR w g bm gr f n) (hx : I64 x) (hf : I64 fl) (hn : n < 17592186044416) :
    Calls Try.prog 9 #[P0 g, P0 gr, .agg #[.int .i64 2, .int .i64 x, .int .i64 fl]] w fun e w' => e = .returned (.bool true) ∧ DOut g bm gr n w w' := by
  have H := hidden h
  have hgl := blk_lt h.t.blk
  have hbl : bm < w.heap.size := by obtain ⟨es, c, hb⟩ := h.t.mapblk; exact blk_lt hb
  have hrl : gr < w.heap.size := by obtain ⟨v, hb⟩ := h.r.blk; exact blk_lt hb
  have h0 := hidden (h.same (same_alloc w (.cells #[.int .i64 2, .int .i64 x, .int .i64 fl] 31)))
  have bx := hidden (boxed w 2 x fl)
  have K0 := hidden (same_alloc w (.cells #[.int .i64 2, .int .i64 x, .int .i64 fl] 31))
  have hol := ol_le f
  rcases isin_or f x with ⟨i, hi, rfl, hfi⟩ | hno
  · obtain ⟨e0, e1⟩ := ol_close f i hi hfi
    have hat : (ol f)[(os f 0 i).length]? = some ((i : Int), (f i).1, (f i).2) := by rw [e1, List.getElem?_append_right (Nat.le_refl _)]; simp
    have hbe : ∀ (j : Nat) p, j < (os f 0 i).length → (ol f)[j]? = some p → p.1 ≠ (i : Int) := fun j p hj hp => by
      rw [e1, List.getElem?_append_left hj] at hp
      obtain ⟨k, _, hk, rfl, _⟩ := os_mem f 0 i p (List.mem_of_getElem? hp)
      show (k : Int) ≠ i
      omega
    have hr := hidden (fun W hW => r_get gr (ol f) (i : Int) (os f 0 i).length (f i).1 (f i).2 W hW hol hat hbe)
    have ht := hidden (fun W hW => h_get g bm f n i W hW hi hfi)
    generalize (f i).1 = X at *
    generalize (f i).2 = Y at *
    clear h e0 e1 hat hbe
    go_enter Try.func9, Try.ntmps9
    go_wp2_with (first
      | (go_at_call 15; refine (ht.out _ h0.out.t).mono ?_; rintro e w1 ⟨rfl, k1⟩; have b1 := blk_kept k1 (fun h => h) bx.out; have c1 := (blk_cell (j := 1) b1); have c2 := (blk_cell (j := 2) b1); simp at c1 c2; have P1 := hidden (h0.out.same k1); have K1 := hidden (K0.out.trans k1); have zb : w.heap.size < w1.heap.size := (by have := k1.size; simp at this; omega); clear k1 b1)
      | (go_at_call 21; refine (hr.out _ (P1.out.r.same (same_alloc _ _))).mono ?_; rintro e w2 ⟨rfl, k2⟩; have zz : w1.heap.size < w2.heap.size := (by have := k2.size; simp at this; omega); have b2 := blk_kept k2 (fun h => h) (blk_new w1 (.cells #[.int .i64 i, .int .i64 X, .int .i64 Y] 44)); have m0 := blk_cell (j := 0) b2; have m1 := blk_cell (j := 1) b2; have m2 := blk_cell (j := 2) b2; simp at m0 m1 m2; have K2 := hidden ((K1.out.alloc (.cells #[.int .i64 i, .int .i64 X, .int .i64 Y] 44)).trans k2); clear k2 b2))
    go_ret
    exact ⟨by simp, DOut.quiet H.out (K2.out.alloc _)⟩
  · have hni := notin hno
    clear h
    go_enter Try.func9, Try.ntmps9
    go_wp2_with (first
      | (go_at_call 15; refine (h_get_no g bm _ _ x _ h0.out.t hx hno).mono ?_; rintro e w1 ⟨rfl, k1⟩; have b1 := blk_kept k1 (fun h => h) bx.out; have c1 := (blk_cell (j := 1) b1); have c2 := (blk_cell (j := 2) b1); simp at c1 c2; have P1 := hidden (h0.out.same k1); have K1 := hidden (K0.out.trans k1); have zb : w.heap.size < w1.heap.size := (by have := k1.size; simp at this; omega); clear k1 b1)
      | (go_at_call 21; refine (r_get_no gr _ x _ (P1.out.r.same (same_alloc _ _)) hol hni).mono ?_; rintro e w2 ⟨rfl, k2⟩; have zz : w1.heap.size < w2.heap.size := (by have := k2.size; simp at this; omega); have b2 := blk_kept k2 (fun h => h) (blk_new w1 (.cells #[.int .i64 0, .int .i64 0, .int .i64 0] 44)); have m0 := blk_cell (j := 0) b2; have m1 := blk_cell (j := 1) b2; have m2 := blk_cell (j := 2) b2; simp at m0 m1 m2; have K2 := hidden ((K1.out.alloc (.cells #[.int .i64 0, .int .i64 0, .int .i64 0] 44)).trans k2); clear k2 b2))
    go_ret
    exact ⟨rfl, DOut.quiet H.out (K2.out.alloc _)⟩
set_option maxHeartbeats 2000000 in
set_option maxRecDepth 100000 in
theorem d_inodes (g bm gr : Nat) (f : FT) (n : Nat) (x fl : Int) (w : World) (h : PR w g bm gr f n) (hx : I64 x) (hf : I64 fl) (hn : n < 17592186044416) :
    Calls Try.prog 9 #[P0 g, P0 gr, .agg #[.int .i64 5, .int .i64 x, .int .i64 fl]] w fun e w' => e = .returned (.bool true) ∧ DOut g bm gr n w w' := by
  have H := hidden h
  have hgl := blk_lt h.t.blk
  have hbl : bm < w.heap.size := by obtain ⟨es, c, hb⟩ := h.t.mapblk; exact blk_lt hb
  have hrl : gr < w.heap.size := by obtain ⟨v, hb⟩ := h.r.blk; exact blk_lt hb
  have h0 := hidden (h.same (same_alloc w (.cells #[.int .i64 5, .int .i64 x, .int .i64 fl] 31)))
  have bx := hidden (boxed w 5 x fl)
  have K0 := hidden (same_alloc w (.cells #[.int .i64 5, .int .i64 x, .int .i64 fl] 31))
  have hol := ol_le f
  clear h
  go_enter Try.func9, Try.ntmps9
  go_wp2_with (first
    | (go_at_call 17; refine (h_inodes g bm _ _ _ h0.out.t (by omega)).mono ?_; rintro e w1 ⟨v, l, rfl, hl, hr, k1⟩; have IL := hidden hl; have R1 := hidden hr; have K1 := hidden k1; have P1 := hidden (h0.out.same k1); clear hl hr k1)
    | (go_at_call 25; refine (r_inodes gr _ _ P1.out.r hol).mono ?_; rintro e w2 ⟨v2, o, rfl, ho, hr2, k2⟩; have hlo := ho.ino.unique IL.out; subst hlo; have R2 := hidden hr2; have R12 := hidden (own_kept R1.out k2 (fun _ _ h => h)); have K2 := hidden (K1.out.trans k2); have hfe := ho.few; clear hr2 k2 ho)
    | (go_at_call 24; refine (sameInts_eq _ _ o _ _ _ R12.out R2.out (by omega)).mono ?_; rintro e w3 ⟨rfl, k3⟩; have K3 := hidden (K2.out.trans k3); clear k3))
  go_ret
  exact ⟨rfl, DOut.quiet H.out (K0.out.trans K3.out)⟩
end Go.Proofs.Ytiffkcffcjembaa
