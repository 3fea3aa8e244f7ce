/- The document's table: Close. -/
import Derived.Test.YtiffkcffcjembaaH10
namespace Go.Proofs.Ytiffkcffcjembaa
open Go.RowKit Go.Maps
set_option linter.unusedVariables false
set_option linter.unusedSimpArgs false
set_option maxHeartbeats 1000000 in
set_option maxRecDepth 100000 in
theorem r_close_no (gr : Nat) (l : List HT) (x : Int) (w : World) (h : RT w gr l) (hl : l.length ≤ 64) (hno : ∀ p ∈ l, p.1 ≠ x) :
    Calls Try.prog 20 #[P0 gr, .int .i64 x] w fun e w' => e = .returned (.tuple #[.int .i64 0, .bool false, .int .i64 237]) ∧ Same w w' := by
  have hfi := hidden (r_find gr l x l.length (-1) w h hl (Nat.le_refl _) (fun i p _ hp => hno p (List.mem_of_getElem? hp)) (fun p hp => by have := (List.getElem?_eq_some_iff.1 hp).1; omega) (hidden (fun h => by omega)) (hidden (fun _ => rfl)))
  go_enter Try.func20, Try.ntmps20
  go_wp2_with (first
    | (go_at_call 32; refine hfi.out.mono ?_; rintro e w1 ⟨rfl, k1⟩))
  exact bodyPost_ret (v := .tuple #[.int .i64 0, .bool false, .int .i64 237]) (by simp [results, Try.results20, go_sem]) rfl ⟨rfl, k1⟩
set_option maxHeartbeats 4000000 in
set_option maxRecDepth 100000 in
theorem r_close (gr : Nat) (A B : List HT) (m : Nat) (x X Y : Int) (C : Nat) (L0 : Bool) (w : World) (h : RT w gr (A ++ ([(x, X, Y)] ++ B))) (hm : A.length = m) (hA : ∀ p ∈ A, p.1 ≠ x) (hl : (A ++ ([(x, X, Y)] ++ B)).length ≤ 64) (hC : ci (A ++ B) X (A ++ B).length = C) (hL0 : ((C : Int) == 0) = L0) :
    Calls Try.prog 20 #[P0 gr, .int .i64 x] w fun e w' => e = .returned (.tuple #[.int .i64 X, .bool L0, .int .i64 0]) ∧ RT w' gr (A ++ B) ∧ Kept (fun k => k = gr) w w' := by
  obtain ⟨v, hb, ho⟩ := h.ex
  obtain ⟨va, vc, rfl⟩ := own_form ho
  have hroom := own_room ho
  obtain ⟨L, hL⟩ : ∃ L, L = (A ++ ([(x, X, Y)] ++ B)).length := ⟨_, rfl⟩
  have hLm : L = m + 1 + B.length := by rw [hL]; simp; omega
  have hAt : (A ++ ([(x, X, Y)] ++ B)).take m = A := by rw [List.take_append_of_le_length (by omega), List.take_of_length_le (by omega)]
  have hBt : (A ++ ([(x, X, Y)] ++ B)).drop (m + 1) = B := by
    rw [← List.append_assoc, List.drop_append_of_le_length (by simp; omega), List.drop_of_length_le (by simp; omega), List.nil_append]
  have hget : (A ++ ([(x, X, Y)] ++ B))[m]? = some (x, X, Y) := by rw [List.getElem?_append_right (by omega), hm]; simp
  have hfi := hidden (r_find gr _ x m (m : Int) w h hl (by omega) (fun j p hj hp => hA p (by
    rw [List.getElem?_append_left (by omega)] at hp
    exact List.mem_of_getElem? hp)) (fun p hp => by rw [hget] at hp; cases hp; rfl) (hidden (fun _ => rfl)) (hidden (fun e => by omega)))
  rw [← hL] at ho hl hroom
  have l1 : ∀ W, Same w W → Lies W (if vc = 0 then va else va.map (·.add (0 * 3))) m (c3 A) := fun W k => by
    have := sub_lies (own_kept ho k (fun _ _ h => h)) 0 m (by omega)
    rw [Nat.zero_mul, List.drop_zero, c3_take, hAt] at this
    rw [Nat.zero_mul]
    exact this
  have l2 : ∀ W, Same w W → Lies W (if vc = m + 1 then va else va.map (·.add ((m + 1) * 3))) (L - (m + 1)) (c3 B) := fun W k => by
    have := sub_lies (own_kept ho k (fun _ _ h => h)) (m + 1) (L - (m + 1)) (by omega)
    rw [c3_drop, hBt, List.take_of_length_le (by rw [c3_len]; omega)] at this
    exact this
  have s1 := sl_to und_h size_h va L vc m (by omega) hroom
  have s2 : ∀ W, (Instr.sliceAt 27 (.slice va L vc) (some (.int .i64 ((m : Int) + 1))) none none).run Try.prog W = _ := fun W => sl_from und_h size_h va L vc (m + 1) (by omega) hroom W
  obtain ⟨g, gc, e1, _, _, _, c1⟩ := own_at ho (by omega)
  obtain ⟨t0, tt1, t2⟩ := c3_at _ m _ hget
  have d1 := c1 _ _ tt1
  have c0 : w.cell? ⟨gr, 0, none⟩ = some (.slice va L vc) := by rw [hL]; exact (blk_cell hb).trans rfl
  generalize (if vc = 0 then va else va.map (·.add (0 * 3))) = p1 at l1 s1
  generalize (if vc = m + 1 then va else va.map (·.add ((m + 1) * 3))) = p2 at l2 s2
  obtain ⟨rfl, _, rfl⟩ : va = some ⟨g, 0, none⟩ ∧ True ∧ vc = gc := by simpa using e1
  have L1 := hidden l1
  have L2 := hidden l2
  have HB := hidden hb
  have HLm := hidden hLm
  have Hm := hidden hm
  have HL0 := hidden hL0
  have HCC := hidden hC
  have hgr := blk_lt hb
  have hmL : (m : Int) < L := by omega
  have hmN : m < L := by omega
  have C0 : Hid (w.cell? ⟨gr, 0, none⟩ = some (.slice (some ⟨g, 0, none⟩) L vc) ∧ w.cell? ⟨g, m * 3 + 1, none⟩ = some (.int .i64 X)) := hidden ⟨c0, d1⟩
  clear hb ho hL hLm hAt hBt hget l1 l2 hA hm h t0 tt1 t2 c1 e1 hL0 c0 d1 hC
  obtain ⟨i0, hi, hz0, hz1, hz2⟩ := info_parts infoH
  have tk1 : True := trivial
  go_enter Try.func20, Try.ntmps20
  go_wp2_with (first
    | (go_at_call 32; refine hfi.out.mono ?_; rintro e w1 ⟨rfl, k1⟩; have K1 := hidden k1; have z1 := k1.size; have hgr1 : gr < w1.heap.size := (Nat.lt_of_lt_of_le hgr z1); have cr1 := k1.cell (fun h => h) C0.out.1; have dr1 := k1.cell (fun h => h) C0.out.2; clear k1)
    | (at_builtin; have _t := tk1; refine wpList_append_any rfl _ _ 27 rfl w1.heap.size 44 i0 _ 3 24 Try.underlying27 hi hz0 hz1 hz2 rfl (by decide) _ 0 0 [] rfl (own_empty w1 _ 3) p1 m vc (c3 A) rfl (by rw [c3_len, Hm.out]) (L1.out _ (K1.out.trans (same_alloc w1 _))) (c3_cell _) (by unfold maxLen; omega) (by omega) (by simp) ?_; intro a2 c2 w2 ho2 hg2; clear tk1; have k2 := same_grows (same_alloc w1 _) (own_empty w1 _ 3) hg2; rw [List.nil_append, Nat.zero_add] at ho2; have O2 := hidden ho2; have K2 := hidden (K1.out.trans k2); have z2 := k2.size; have cr2 := k2.cell (fun h => h) cr1; rw [Nat.zero_add]; clear ho2 hg2 k2)
    | (at_builtin; refine wpList_append_any rfl _ _ 27 rfl w1.heap.size 44 i0 _ 3 24 Try.underlying27 hi hz0 hz1 hz2 rfl (by decide) _ m c2 (c3 A) rfl O2.out p2 (L - (m + 1)) (vc - (m + 1)) (c3 B) rfl (by rw [c3_len]; have := HLm.out; omega) (L2.out _ K2.out) (c3_cell _) (by unfold maxLen; omega) (by omega) z2 ?_; intro a4 d4 w4 ho4 hg4; have k4 : Same w w4 := (Kept.grown K2.out hg4 (fun q hk hl => by have := (O2.out.lt q hk).1; omega)); have O4 := hidden ho4; have K4 := hidden k4; have b4 := blk_kept k4 (fun h => h) HB.out; have B4 := hidden b4; have cr4 := k4.cell (fun h => h) C0.out.1; have fr4 := blk_free (j := 0) b4; clear ho4 hg4 k4 b4)
    | (go_at_call 22; have RT5 : RT (w4.setCell ⟨gr, 0, none⟩ (.slice a4 (m + (L - (m + 1))) d4)) gr (A ++ B) := (by
        have hfin := own_kept (own_mono O4.out (Nat.zero_le _)) (Kept.setCell (p := ⟨gr, 0, none⟩) (Kept.refl (fun q => q = gr) w4) rfl (.slice a4 (m + (L - (m + 1))) d4)) (fun q hq hs => by have := (O4.out.lt q hq).1; subst hs; omega)
        have hLm := HLm.out
        have hAm := Hm.out
        refine ⟨_, blk_set B4.out _, ?_⟩
        rw [show (A ++ B).length = m + (L - (m + 1)) by simp; omega, c3_app]
        exact hfin); refine (r_count gr (A ++ B) X _ RT5 (by have hLm := HLm.out; have hAm := Hm.out; simp; omega)).mono ?_; rintro e w5 ⟨rfl, k5⟩; rw [HCC.out]; have K5 := hidden ((Kept.setCell (S := fun q => q = gr) (p := ⟨gr, 0, none⟩) (K4.out.mono (fun _ _ h => h.elim)) rfl (.slice a4 (m + (L - (m + 1))) d4)).trans (k5.mono (fun _ _ h => h.elim))); have R5 := hidden (RT5.same k5); clear k5 RT5))
  refine bodyPost_ret (v := .tuple #[.int .i64 X, .bool ((C : Int) == 0), .int .i64 0]) (by simp [results, Try.results20, go_sem]) rfl ⟨by rw [HL0.out], R5.out, K5.out⟩
end Go.Proofs.Ytiffkcffcjembaa
