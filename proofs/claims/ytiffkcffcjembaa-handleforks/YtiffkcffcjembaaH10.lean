/- The document's table: Open, Close. -/
import Derived.Test.YtiffkcffcjembaaH9
namespace Go.Proofs.Ytiffkcffcjembaa
open Go.RowKit Go.Maps
set_option linter.unusedVariables false
set_option linter.unusedSimpArgs false
theorem own_empty (W : World) (e : TypeId) (s : Nat) : (W.alloc (.cells #[] e)).ownsRow W.heap.size e s (.slice (some ⟨W.heap.size, 0, none⟩) 0 0) 0 [] :=
  ⟨by simp, Or.inr ⟨W.heap.size, 0, #[], rfl, Nat.le_refl _, blk_new W _, Nat.le_refl _, Nat.zero_le _, by simp, by simp⟩⟩
theorem same_grows {w0 w w' : World} {e : TypeId} {s n : Nat} {v : Value} {xs : List Value} (k : Same w0 w) (h : w.ownsRow w0.heap.size e s v n xs) (hg : w.grownBy w' v.ownBlock) : Same w0 w' :=
  Kept.grown k hg (fun q hk hl => by have := (h.lt q hk).1; omega)
/-- A row that is older than another stays while that one grows. -/
theorem own_older {w w' : World} {e e' : TypeId} {s s' n n' B C : Nat} {v v' : Value} {xs xs' : List Value} (h : w.ownsRow B e s v n xs) (h' : w.ownsRow C e' s' v' n' xs') (ho : ∀ k, v.ownBlock = some k → k < C) (hg : w.grownBy w' v'.ownBlock) : w'.ownsRow B e s v n xs := by
  have hk : Kept (fun k => v'.ownBlock = some k) w w' := ⟨hg.os, hg.tape, hg.output, hg.size, fun i hi hs => hg.block i hi (fun e => hs e.symm)⟩
  exact own_kept h hk (fun k hk' hs => by have := ho k hk'; have := (h'.lt k hs).1; omega)
set_option maxHeartbeats 2000000 in
set_option maxRecDepth 100000 in
theorem r_open_full (gr : Nat) (l : List HT) (x fl : Int) (w : World) (h : RT w gr l) (hl : l.length = 64) (hA : ∀ (j : Nat) p, l[j]? = some p → p.1 = j) :
    Calls Try.prog 19 #[P0 gr, .int .i64 x, .int .i64 fl] w fun e w' => e = .returned (.tuple #[.int .i64 0, .int .i64 238]) ∧ w' = w := by
  obtain ⟨v, hb, ho⟩ := h.ex
  obtain ⟨g, gc, rfl, hgc, _, _, hc⟩ := own_at ho (by omega)
  have c0 : w.cell? ⟨gr, 0, none⟩ = some (.slice (some ⟨g, 0, none⟩) l.length gc) := (blk_cell hb).trans rfl
  rw [hl] at c0
  have HC := hidden hc
  have HL := hidden hl
  clear hb ho hc hl
  go_enter Try.func19, Try.ntmps19
  go_wp2
  go_loop [8] (fun i => ∃ k : Nat, k ≤ 64 ∧ i = .int .i64 k) (fun i => 64 - (intOf i).toNat)
  case atStart => exact ⟨0, Nat.zero_le _, rfl⟩
  case round =>
    obtain ⟨k, hk, rfl⟩ := hrel
    by_cases hlt : k < 64
    · obtain ⟨p, hp⟩ : ∃ p, l[k]? = some p := ⟨_, List.getElem?_eq_getElem (by rw [HL.out]; exact hlt)⟩
      obtain ⟨t0, _, _⟩ := c3_at l k p hp
      have d0 := HC.out _ _ t0
      rw [hA k p hp] at d0
      have b1 : decide ((k : Int) < 64) = true := decide_eq_true (by omega)
      clear t0 hp
      go_wp2
      go_round
      case rel => exact ⟨k + 1, by omega, by go_num⟩
      case measure => simp [intOf]; omega
    · have b1 : decide ((k : Int) < 64) = false := decide_eq_false (by omega)
      have b2 : (64 : Int) ≤ k := by omega
      go_wp2
      go_ret2
      exact ⟨rfl, rfl⟩
set_option maxHeartbeats 4000000 in
set_option maxRecDepth 100000 in
theorem r_open (gr : Nat) (A B : List HT) (m : Nat) (x fl : Int) (w : World) (h : RT w gr (A ++ B)) (hm : A.length = m) (hA : ∀ (j : Nat) p, A[j]? = some p → p.1 = j) (hB : ∀ p, B[0]? = some p → p.1 ≠ (m : Int)) (hl : (A ++ B).length ≤ 63) (hx : 1 ≤ x) :
    Calls Try.prog 19 #[P0 gr, .int .i64 x, .int .i64 fl] w fun e w' => e = .returned (.tuple #[.int .i64 m, .int .i64 0]) ∧ RT w' gr (A ++ ([((m : Int), x, fl)] ++ B)) ∧ Kept (fun k => k = gr) w w' := by
  obtain ⟨v, hb, ho⟩ := h.ex
  obtain ⟨va, vc, rfl⟩ := own_form ho
  have hroom := own_room ho
  obtain ⟨L, hL⟩ : ∃ L, L = (A ++ B).length := ⟨_, rfl⟩
  have hLm : L = m + B.length := by rw [hL, List.length_append, hm]
  have hAt : (A ++ B).take m = A := by rw [List.take_append_of_le_length (by omega), List.take_of_length_le (by omega)]
  have hBt : (A ++ B).drop m = B := by rw [List.drop_append_of_le_length (by omega), List.drop_of_length_le (by omega), List.nil_append]
  have hget : ∀ k, k < L → ∃ p, (A ++ B)[k]? = some p ∧ (k < m → p.1 = (k : Int)) ∧ (k = m → p.1 ≠ (m : Int)) := fun k hk => by
    refine ⟨_, List.getElem?_eq_getElem (by omega), fun hkm => ?_, fun hkm => ?_⟩
    · refine hA k _ ?_
      rw [← List.getElem?_append_left (l₂ := B) (by omega)]
      exact List.getElem?_eq_getElem (by omega)
    · refine hB _ ?_
      have : B[0]? = (A ++ B)[k]? := by rw [List.getElem?_append_right (by omega)]; congr 1; omega
      rw [this]
      exact List.getElem?_eq_getElem (by omega)
  rw [← hL] at ho hl hroom
  have l1 : ∀ W, Same w W → Lies W (if vc = 0 then va else va.map (·.add (0 * 3))) m (c3 A) := fun W k => by
    have := sub_lies (own_kept ho k (fun _ _ h => h)) 0 m (by omega)
    rw [Nat.zero_mul, List.drop_zero, c3_take, hAt] at this
    rw [Nat.zero_mul]
    exact this
  have l2 : ∀ W, Same w W → Lies W (if vc = m then va else va.map (·.add (m * 3))) (L - m) (c3 B) := fun W k => by
    have := sub_lies (own_kept ho k (fun _ _ h => h)) m (L - m) (by omega)
    rw [c3_drop, hBt, List.take_of_length_le (by rw [c3_len]; omega)] at this
    exact this
  have s1 := sl_to und_h size_h va L vc m (by omega) hroom
  have s2 := sl_from und_h size_h va L vc m (by omega) hroom
  have HW := hidden (fun (hn : 0 < L) => own_at ho hn)
  have c0 : w.cell? ⟨gr, 0, none⟩ = some (.slice va L vc) := by rw [hL]; exact (blk_cell hb).trans rfl
  generalize (if vc = 0 then va else va.map (·.add (0 * 3))) = p1 at l1 s1
  generalize (if vc = m then va else va.map (·.add (m * 3))) = p2 at l2 s2
  have L1 := hidden l1
  have L2 := hidden l2
  have HB := hidden hb
  have HO := hidden ho
  have HLm := hidden hLm
  have HG := hidden hget
  have Hm := hidden hm
  have hgr := blk_lt hb
  have hmL : m ≤ L := by omega
  have hbl : c3 B = c3 B := rfl
  clear hb ho hL hLm hAt hBt hget l1 l2 hA hB hm hbl h
  obtain ⟨i0, hi, hz0, hz1, hz2⟩ := info_parts infoH
  have t1 : True := trivial
  have t2 : True := trivial
  go_enter Try.func19, Try.ntmps19
  go_wp2
  go_loop [8] (fun i => ∃ k : Nat, k ≤ m ∧ i = .int .i64 k) (fun i => 64 - (intOf i).toNat)
  case atStart => exact ⟨0, Nat.zero_le _, rfl⟩
  case round =>
    obtain ⟨k, hk, rfl⟩ := hrel
    by_cases hkm : k < m
    · obtain ⟨p, hp, hp1, _⟩ := HG.out k (by omega)
      obtain ⟨g, gc, e1, _, _, _, c1⟩ := HW.out (by omega)
      obtain ⟨rfl, _, rfl⟩ : va = some ⟨g, 0, none⟩ ∧ True ∧ vc = gc := by simpa using e1
      obtain ⟨q0, _, _⟩ := c3_at _ k p hp
      have d0 := c1 _ _ q0
      rw [hp1 hkm] at d0
      have b1 : decide ((k : Int) < L) = true := decide_eq_true (by omega)
      have b2 : (k : Int) < L := by omega
      clear q0 hp hp1 c1 e1
      go_wp2
      go_round
      case rel => exact ⟨k + 1, by omega, by go_num⟩
      case measure => simp [intOf]; omega
    · obtain rfl : k = m := by omega
      have hrest : True := trivial
      by_cases hkL : k < L
      · obtain ⟨p, hp, _, hp1⟩ := HG.out k hkL
        obtain ⟨g, gc, e1, _, _, _, c1⟩ := HW.out (by omega)
        obtain ⟨rfl, _, rfl⟩ : va = some ⟨g, 0, none⟩ ∧ True ∧ vc = gc := by simpa using e1
        obtain ⟨q0, _, _⟩ := c3_at _ k p hp
        have d0 := c1 _ _ q0
        have b1 : decide ((k : Int) < L) = true := decide_eq_true (by omega)
        have b2 : (k : Int) < L := by omega
        have b3 : (p.1 == (k : Int)) = false := by simpa using hp1 rfl
        clear q0 hp hp1 c1 e1
        go_wp2_with (first
          | (at_builtin; have _t := t1; refine wpList_append_any rfl _ _ 27 rfl w.heap.size 44 i0 _ 3 24 Try.underlying27 hi hz0 hz1 hz2 rfl (by decide) _ 0 0 [] rfl (own_empty w _ 3) p1 k vc (c3 A) rfl (by rw [c3_len, Hm.out]) (L1.out _ (same_alloc w _)) (c3_cell _) (by unfold maxLen; omega) (by omega) (by simp) ?_; intro a2 c2 w2 ho2 hg2; clear t1; have k2 := same_grows (same_alloc w _) (own_empty w _ 3) hg2; rw [List.nil_append, Nat.zero_add] at ho2; have O2 := hidden ho2; have K2 := hidden k2; have z2 := k2.size; have cr2 := k2.cell (fun h => h) c0; rw [Nat.zero_add]; clear ho2 hg2 k2)
          | (at_builtin; have _t := t2; refine wpList_append_any rfl _ _ 27 rfl w.heap.size 44 i0 _ 3 24 Try.underlying27 hi hz0 hz1 hz2 rfl (by decide) _ k c2 (c3 A) rfl (own_kept O2.out (same_alloc w2 _) (fun _ _ h => h)) (some ⟨w2.heap.size, 0, none⟩) 1 1 (c3 [((k : Int), x, fl)]) rfl rfl (lies_new _ _ _ _ _ rfl) (c3_cell _) (by unfold maxLen; omega) (by omega) (by simp; omega) ?_; intro a3 d3 w3 ho3 hg3; clear t2; have k3 := same_grows (K2.out.alloc _) (own_kept O2.out (same_alloc w2 _) (fun _ _ h => h)) hg3; have O3 := hidden ho3; have K3 := hidden k3; have z3 := k3.size; have cr3 := k3.cell (fun h => h) c0; clear ho3 hg3 k3)
          | (at_builtin; refine wpList_append_any rfl _ _ 27 rfl w.heap.size 44 i0 _ 3 24 Try.underlying27 hi hz0 hz1 hz2 rfl (by decide) _ (k + 1) d3 (c3 A ++ c3 [((k : Int), x, fl)]) rfl O3.out p2 (L - k) (vc - k) (c3 B) rfl (by rw [c3_len]; have := HLm.out; omega) (L2.out _ K3.out) (c3_cell _) (by unfold maxLen; omega) (by omega) z3 ?_; intro a4 d4 w4 ho4 hg4; have k4 := same_grows K3.out O3.out hg4; have O4 := hidden ho4; have K4 := hidden k4; have b4 := blk_kept k4 (fun h => h) HB.out; have B4 := hidden b4; have cr4 := k4.cell (fun h => h) c0; have fr4 := blk_free (j := 0) b4; clear ho4 hg4 k4 b4))
        go_ret2
        refine ⟨rfl, ⟨_, blk_set B4.out _, ?_⟩, Kept.setCell (S := fun q => q = gr) (p := ⟨gr, 0, none⟩) (K4.out.mono (fun _ _ h => h.elim)) rfl _⟩
        have hfin := own_kept (own_mono O4.out (Nat.zero_le _)) (Kept.setCell (p := ⟨gr, 0, none⟩) (Kept.refl (fun q => q = gr) w4) rfl (.slice a4 (k + 1 + (L - k)) d4)) (fun q hq hs => by have := (O4.out.lt q hq).1; subst hs; omega)
        have hLm := HLm.out
        have hAm := Hm.out
        have hfin2 : (w4.setCell ⟨gr, 0, none⟩ (.slice a4 (k + 1 + (L - k)) d4)).ownsRow 0 44 3 (.slice a4 (k + 1 + (L - k)) d4) (A ++ ([((k : Int), x, fl)] ++ B)).length (c3 (A ++ ([((k : Int), x, fl)] ++ B))) := by
          rw [show (A ++ ([((k : Int), x, fl)] ++ B)).length = k + 1 + (L - k) by simp; omega, c3_app, c3_app, ← List.append_assoc]
          exact hfin
        exact hfin2
      · have b1 : decide ((k : Int) < L) = false := decide_eq_false (by omega)
        go_wp2_with (first
          | (at_builtin; have _t := t1; refine wpList_append_any rfl _ _ 27 rfl w.heap.size 44 i0 _ 3 24 Try.underlying27 hi hz0 hz1 hz2 rfl (by decide) _ 0 0 [] rfl (own_empty w _ 3) p1 k vc (c3 A) rfl (by rw [c3_len, Hm.out]) (L1.out _ (same_alloc w _)) (c3_cell _) (by unfold maxLen; omega) (by omega) (by simp) ?_; intro a2 c2 w2 ho2 hg2; clear t1; have k2 := same_grows (same_alloc w _) (own_empty w _ 3) hg2; rw [List.nil_append, Nat.zero_add] at ho2; have O2 := hidden ho2; have K2 := hidden k2; have z2 := k2.size; have cr2 := k2.cell (fun h => h) c0; rw [Nat.zero_add]; clear ho2 hg2 k2)
          | (at_builtin; have _t := t2; refine wpList_append_any rfl _ _ 27 rfl w.heap.size 44 i0 _ 3 24 Try.underlying27 hi hz0 hz1 hz2 rfl (by decide) _ k c2 (c3 A) rfl (own_kept O2.out (same_alloc w2 _) (fun _ _ h => h)) (some ⟨w2.heap.size, 0, none⟩) 1 1 (c3 [((k : Int), x, fl)]) rfl rfl (lies_new _ _ _ _ _ rfl) (c3_cell _) (by unfold maxLen; omega) (by omega) (by simp; omega) ?_; intro a3 d3 w3 ho3 hg3; clear t2; have k3 := same_grows (K2.out.alloc _) (own_kept O2.out (same_alloc w2 _) (fun _ _ h => h)) hg3; have O3 := hidden ho3; have K3 := hidden k3; have z3 := k3.size; have cr3 := k3.cell (fun h => h) c0; clear ho3 hg3 k3)
          | (at_builtin; refine wpList_append_any rfl _ _ 27 rfl w.heap.size 44 i0 _ 3 24 Try.underlying27 hi hz0 hz1 hz2 rfl (by decide) _ (k + 1) d3 (c3 A ++ c3 [((k : Int), x, fl)]) rfl O3.out p2 (L - k) (vc - k) (c3 B) rfl (by rw [c3_len]; have := HLm.out; omega) (L2.out _ K3.out) (c3_cell _) (by unfold maxLen; omega) (by omega) z3 ?_; intro a4 d4 w4 ho4 hg4; have k4 := same_grows K3.out O3.out hg4; have O4 := hidden ho4; have K4 := hidden k4; have b4 := blk_kept k4 (fun h => h) HB.out; have B4 := hidden b4; have cr4 := k4.cell (fun h => h) c0; have fr4 := blk_free (j := 0) b4; clear ho4 hg4 k4 b4))
        go_ret2
        refine ⟨rfl, ⟨_, blk_set B4.out _, ?_⟩, Kept.setCell (S := fun q => q = gr) (p := ⟨gr, 0, none⟩) (K4.out.mono (fun _ _ h => h.elim)) rfl _⟩
        have hfin := own_kept (own_mono O4.out (Nat.zero_le _)) (Kept.setCell (p := ⟨gr, 0, none⟩) (Kept.refl (fun q => q = gr) w4) rfl (.slice a4 (k + 1 + (L - k)) d4)) (fun q hq hs => by have := (O4.out.lt q hq).1; subst hs; omega)
        have hLm := HLm.out
        have hAm := Hm.out
        have hfin2 : (w4.setCell ⟨gr, 0, none⟩ (.slice a4 (k + 1 + (L - k)) d4)).ownsRow 0 44 3 (.slice a4 (k + 1 + (L - k)) d4) (A ++ ([((k : Int), x, fl)] ++ B)).length (c3 (A ++ ([((k : Int), x, fl)] ++ B))) := by
          rw [show (A ++ ([((k : Int), x, fl)] ++ B)).length = k + 1 + (L - k) by simp; omega, c3_app, c3_app, ← List.append_assoc]
          exact hfin
        exact hfin2
set_option maxHeartbeats 4000000 in
set_option maxRecDepth 100000 in
theorem r_open_bad (gr : Nat) (A B : List HT) (m : Nat) (x fl : Int) (w : World) (h : RT w gr (A ++ B)) (hm : A.length = m) (hA : ∀ (j : Nat) p, A[j]? = some p → p.1 = j) (hB : ∀ p, B[0]? = some p → p.1 ≠ (m : Int)) (hl : (A ++ B).length ≤ 63) (hx : x < 1) :
    Calls Try.prog 19 #[P0 gr, .int .i64 x, .int .i64 fl] w fun e w' => e = .returned (.tuple #[.int .i64 0, .int .i64 236]) ∧ w' = w := by
  obtain ⟨v, hb, ho⟩ := h.ex
  obtain ⟨va, vc, rfl⟩ := own_form ho
  have hroom := own_room ho
  obtain ⟨L, hL⟩ : ∃ L, L = (A ++ B).length := ⟨_, rfl⟩
  have hLm : L = m + B.length := by rw [hL, List.length_append, hm]
  have hAt : (A ++ B).take m = A := by rw [List.take_append_of_le_length (by omega), List.take_of_length_le (by omega)]
  have hBt : (A ++ B).drop m = B := by rw [List.drop_append_of_le_length (by omega), List.drop_of_length_le (by omega), List.nil_append]
  have hget : ∀ k, k < L → ∃ p, (A ++ B)[k]? = some p ∧ (k < m → p.1 = (k : Int)) ∧ (k = m → p.1 ≠ (m : Int)) := fun k hk => by
    refine ⟨_, List.getElem?_eq_getElem (by omega), fun hkm => ?_, fun hkm => ?_⟩
    · refine hA k _ ?_
      rw [← List.getElem?_append_left (l₂ := B) (by omega)]
      exact List.getElem?_eq_getElem (by omega)
    · refine hB _ ?_
      have : B[0]? = (A ++ B)[k]? := by rw [List.getElem?_append_right (by omega)]; congr 1; omega
      rw [this]
      exact List.getElem?_eq_getElem (by omega)
  rw [← hL] at ho hl hroom
  have l1 : ∀ W, Same w W → Lies W (if vc = 0 then va else va.map (·.add (0 * 3))) m (c3 A) := fun W k => by
    have := sub_lies (own_kept ho k (fun _ _ h => h)) 0 m (by omega)
    rw [Nat.zero_mul, List.drop_zero, c3_take, hAt] at this
    rw [Nat.zero_mul]
    exact this
  have l2 : ∀ W, Same w W → Lies W (if vc = m then va else va.map (·.add (m * 3))) (L - m) (c3 B) := fun W k => by
    have := sub_lies (own_kept ho k (fun _ _ h => h)) m (L - m) (by omega)
    rw [c3_drop, hBt, List.take_of_length_le (by rw [c3_len]; omega)] at this
    exact this
  have s1 := sl_to und_h size_h va L vc m (by omega) hroom
  have s2 := sl_from und_h size_h va L vc m (by omega) hroom
  have HW := hidden (fun (hn : 0 < L) => own_at ho hn)
  have c0 : w.cell? ⟨gr, 0, none⟩ = some (.slice va L vc) := by rw [hL]; exact (blk_cell hb).trans rfl
  generalize (if vc = 0 then va else va.map (·.add (0 * 3))) = p1 at l1 s1
  generalize (if vc = m then va else va.map (·.add (m * 3))) = p2 at l2 s2
  have L1 := hidden l1
  have L2 := hidden l2
  have HB := hidden hb
  have HO := hidden ho
  have HLm := hidden hLm
  have HG := hidden hget
  have Hm := hidden hm
  have hgr := blk_lt hb
  have hmL : m ≤ L := by omega
  have hbl : c3 B = c3 B := rfl
  clear hb ho hL hLm hAt hBt hget l1 l2 hA hB hm hbl h
  obtain ⟨i0, hi, hz0, hz1, hz2⟩ := info_parts infoH
  have t1 : True := trivial
  have t2 : True := trivial
  go_enter Try.func19, Try.ntmps19
  go_wp2
  go_loop [8] (fun i => ∃ k : Nat, k ≤ m ∧ i = .int .i64 k) (fun i => 64 - (intOf i).toNat)
  case atStart => exact ⟨0, Nat.zero_le _, rfl⟩
  case round =>
    obtain ⟨k, hk, rfl⟩ := hrel
    by_cases hkm : k < m
    · obtain ⟨p, hp, hp1, _⟩ := HG.out k (by omega)
      obtain ⟨g, gc, e1, _, _, _, c1⟩ := HW.out (by omega)
      obtain ⟨rfl, _, rfl⟩ : va = some ⟨g, 0, none⟩ ∧ True ∧ vc = gc := by simpa using e1
      obtain ⟨q0, _, _⟩ := c3_at _ k p hp
      have d0 := c1 _ _ q0
      rw [hp1 hkm] at d0
      have b1 : decide ((k : Int) < L) = true := decide_eq_true (by omega)
      have b2 : (k : Int) < L := by omega
      clear q0 hp hp1 c1 e1
      go_wp2
      go_round
      case rel => exact ⟨k + 1, by omega, by go_num⟩
      case measure => simp [intOf]; omega
    · obtain rfl : k = m := by omega
      have hrest : True := trivial
      by_cases hkL : k < L
      · obtain ⟨p, hp, _, hp1⟩ := HG.out k hkL
        obtain ⟨g, gc, e1, _, _, _, c1⟩ := HW.out (by omega)
        obtain ⟨rfl, _, rfl⟩ : va = some ⟨g, 0, none⟩ ∧ True ∧ vc = gc := by simpa using e1
        obtain ⟨q0, _, _⟩ := c3_at _ k p hp
        have d0 := c1 _ _ q0
        have b1 : decide ((k : Int) < L) = true := decide_eq_true (by omega)
        have b2 : (k : Int) < L := by omega
        have b3 : (p.1 == (k : Int)) = false := by simpa using hp1 rfl
        clear q0 hp hp1 c1 e1
        go_wp2
        go_ret2
        exact ⟨rfl, rfl⟩
      · have b1 : decide ((k : Int) < L) = false := decide_eq_false (by omega)
        go_wp2
        go_ret2
        exact ⟨rfl, rfl⟩
end Go.Proofs.Ytiffkcffcjembaa
