/- slices.Grow of nothing, slices.Concat: of texts and of ints. (Made by mkn42.py.) -/
import Derived.Test.YtpjgghalnkfdkaaDoorN4
import Derived.Test.YtpjgghalnkfdkaaDoorGro
namespace Go.Proofs.YtpjgghalnkfdkaaDoor
open Go.RowKit Go.Shelf
open Go.Lib hiding intOf
set_option linter.unusedVariables false
set_option linter.unusedSimpArgs false
theorem growSn (n : Nat) (w : World) (hn : n * 16 ≤ 140737488355328) :
    Calls Tryd.prog 82 #[.slice none 0 0, .int .i64 n] w fun e w' => ∃ u, e = .returned u ∧ ∃ a' c', u = .slice a' 0 c' ∧ w'.ownsRow w.heap.size 9 1 (.slice a' 0 c') 0 [] ∧ Same w w' := by
  obtain ⟨i0, hi, hz0, hz1, hz2⟩ := info_parts infoS
  rcases Nat.eq_zero_or_pos n with rfl | hp
  · have := Any8.slices_Grow_room growS none 0 0 0 w (Nat.le_refl _) (by decide) (by decide) (Nat.le_refl _)
    change Calls Tryd.prog 82 _ _ _ at this
    refine this.mono ?_
    rintro e w' ⟨rfl, rfl⟩
    exact ⟨_, rfl, none, 0, rfl, World.ownsRow_nil _ _ _ _, Kept.refl _ _⟩
  · have := Any8.slices_Grow_grow growS i0 _ hi hz0 (by rw [hz1]; decide) none 0 0 n [] w (Nat.le_refl _) (by omega) (by rw [hz2, Nat.zero_add]; exact hn) (by omega) (by simp) (fun _ => rfl) (fun a h => by cases h)
    change Calls Tryd.prog 82 _ _ _ at this
    refine this.mono ?_
    rintro e w' ⟨rfl, rfl⟩
    have hG := grownCap_ge w (0 + n) 0 9
    have hM := grownCap_le_maxLen w (0 + n) 0 9 (by unfold maxLen; omega)
    refine ⟨_, rfl, _, _, rfl, ⟨by simp, Or.inr ⟨w.heap.size, _, _, rfl, Nat.le_refl _, blk_new w.drew _, Nat.zero_le _, hM, ?_, by simp⟩⟩, ((Kept.refl _ w).drew).alloc _⟩
    simp only [Array.size_append, size_zeroCells, Value.cells, List.size_toArray, List.length_nil]
    change 0 + (0 + n - 0) * 1 + (grownCap w (0 + n) 0 9 - (0 + n)) * 1 = grownCap w (0 + n) 0 9 * 1
    omega
set_option maxHeartbeats 2000000 in
set_option maxRecDepth 100000 in
theorem concatS (ls : List (List ByteArray)) (b : Nat) (A : Nat → Option Addr) (C : Nat → Nat) (m : Nat) (w : World) (hm : ls.length = m) (hm3 : m ≤ 3)
    (hc : ∀ j (h : j < ls.length), w.cell? ⟨b, j, none⟩ = some (.slice (A j) ls[j].length (C j)) ∧ Row w (.slice (A j) ls[j].length (C j)) (TS ls[j])) (hN : ls.flatten.length * 16 ≤ 140737488355328) :
    Calls Tryd.prog 55 #[.slice (some ⟨b, 0, none⟩) m m] w fun e w' => ∃ u, e = .returned u ∧ ∃ a' c', u = .slice a' ls.flatten.length c' ∧ w'.ownsRow w.heap.size 9 1 (.slice a' ls.flatten.length c') ls.flatten.length (TS ls.flatten) ∧ Same w w' := by
  obtain ⟨i0, hi, hz0, hz1, hz2⟩ := info_parts infoS
  obtain ⟨P, hP⟩ : ∃ P : Nat → Nat, ∀ q, P q = (ls.take q).flatten.length := ⟨_, fun _ => rfl⟩
  obtain ⟨Q, hQ⟩ : ∃ Q : Nat → Nat, ∀ q (h : q < ls.length), Q q = ls[q].length := ⟨fun q => (ls[q]?.getD []).length, fun q h => by simp [h]⟩
  have hle : ∀ k, P k ≤ ls.flatten.length := fun k => by
    rw [hP]
    conv => rhs; rw [← List.take_append_drop k ls]
    rw [List.flatten_append, List.length_append]; omega
  have hst : ∀ k (h : k < ls.length), (ls.take (k + 1)).flatten = (ls.take k).flatten ++ ls[k] := fun k h => by
    rw [List.take_succ_eq_append_getElem h, List.flatten_append]; simp
  have hPs : ∀ k, k < m → P (k + 1) = P k + Q k := fun k h => by
    rw [hP, hP, hst k (by omega), List.length_append, hQ k (by omega)]
  have hfu : (ls.take m).flatten = ls.flatten := by rw [List.take_of_length_le (by omega)]
  have hPm : P m = ls.flatten.length := by rw [hP, hfu]
  have HC : Hid (∀ j, j < m → w.cell? ⟨b, j, none⟩ = some (.slice (A j) (Q j) (C j)) ∧ ∃ L, L.length = Q j ∧ Row w (.slice (A j) (Q j) (C j)) (TS L) ∧ TS (ls.take (j + 1)).flatten = TS (ls.take j).flatten ++ TS L) := hidden (fun j hj => by
    obtain ⟨h1, h2⟩ := hc j (by omega)
    rw [← hQ j (by omega)] at h1 h2
    exact ⟨h1, _, (hQ j (by omega)).symm, h2, by rw [hst j (by omega)]; simp [TS]⟩)
  obtain ⟨N, hNe⟩ : ∃ N, N = ls.flatten.length := ⟨_, rfl⟩
  have HFu : Hid (TS (ls.take m).flatten = TS ls.flatten) := hidden (by rw [hfu])
  have HG := hidden (fun W => growSn N W (by rw [hNe]; exact hN))
  have HP0 : Hid (P 0 = 0) := hidden (by rw [hP]; rfl)
  have HE0 : Hid (TS (ls.take 0).flatten = []) := hidden rfl
  rw [← hNe] at hN hle hPm ⊢
  have HLe := hidden hle
  have HPs := hidden hPs
  have HPm := hidden hPm
  obtain ⟨F, hF⟩ : ∃ F : Nat → List Value, ∀ j, TS (ls.take j).flatten = F j := ⟨_, fun _ => rfl⟩
  have HCF : Hid (∀ j, j < m → w.cell? ⟨b, j, none⟩ = some (.slice (A j) (Q j) (C j)) ∧ ∃ L, L.length = Q j ∧ Row w (.slice (A j) (Q j) (C j)) (TS L) ∧ F (j + 1) = F j ++ TS L) := hidden (fun j hj => by
    have := HC.out j hj
    rw [hF, hF] at this
    exact this)
  rw [hF] at HFu HE0
  clear hc hm hle hst hfu hNe hPs hP hQ hPm HC hF
  go_enter Tryd.func55, Tryd.ntmps55
  go_wp2
  go_loop [3, 11] (fun s i => ∃ k : Nat, k ≤ m ∧ i = .int .i64 k ∧ s = .int .i64 (P k : Nat)) (fun _ i => m - (intOf i).toNat)
  case atStart => exact ⟨0, Nat.zero_le _, rfl, by rw [HP0.out]; rfl⟩
  case round =>
    obtain ⟨k, hk, rfl, rfl⟩ := hrel
    have b1 := HLe.out k
    by_cases hlt : k < m
    · obtain ⟨d0, _⟩ := HCF.out k hlt
      have b2 := HLe.out (k + 1)
      have HS3 := hidden (HPs.out k hlt)
      rw [HPs.out k hlt] at b2
      have hk1 : (k : Int) < m := by omega
      go_wp2
      go_round
      case rel => exact ⟨k + 1, by omega, by go_num, by rw [HS3.out]; go_num⟩
      case measure => simp [intOf]; omega
    · obtain rfl : k = m := by omega
      rw [HPm.out]
      clear b1
      go_wp2_with (first
        | (go_at_call 82; refine (HG.out _).mono ?_; rintro e w1 ⟨u, rfl, a', c', rfl, ho, k1⟩; have O1 := hidden ho; have K1 := hidden k1; clear ho k1))
      go_loopw [6, 27] (fun v i wr => ∃ (q : Nat) (a2 : Option Addr) (c2 : Nat), q ≤ k ∧ i = .int .i64 q ∧ v = .slice a2 (P q) c2 ∧ wr.ownsRow w.heap.size 9 1 (.slice a2 (P q) c2) (P q) (F q) ∧ Same w wr) (fun _ i _ => k - (intOf i).toNat)
      case atStart => exact ⟨0, a', c', Nat.zero_le _, rfl, by rw [HP0.out], by rw [HP0.out, HE0.out]; exact O1.out, K1.out⟩
      case round =>
        obtain ⟨q, a2, c2, hq, rfl, rfl, ho2, hs2⟩ := hrel
        have O2 := hidden ho2
        have S2 := hidden hs2
        have b1 := HLe.out q
        clear ho2 hs2
        by_cases hlt : q < k
        · obtain ⟨d0, L, hL, r0, hf0⟩ := HCF.out q hlt
          have R0 := hidden r0
          have HF0 := hidden hf0
          have HLL := hidden hL
          have d1 := S2.out.cell (fun h => h) d0
          have b2 := HLe.out (q + 1)
          have HS3 := hidden (HPs.out q hlt)
          rw [HPs.out q hlt] at b2
          have hk1 : (q : Int) < k := by omega
          have hz := S2.out.size
          clear r0 d0 hf0 hL
          go_wp2_with (first
            | (at_builtin; refine wpList_append_any rfl _ _ 22 rfl w.heap.size 9 i0 _ 1 16 Tryd.underlying22 hi hz0 hz1 hz2 rfl (by decide) a2 (P q) c2 (F q) rfl O2.out (A q) (Q q) (C q) (TS L) rfl (by rw [TS_len, Nat.mul_one, HLL.out]) ((R0.out.same S2.out).lies) (TS_one _) (by unfold maxLen; omega) (by omega) hz ?_; intro a3 c3 w3 ho3 hg3; have k3 := same_grown (m := 0) S2.out O2.out hg3; have O3 := hidden ho3; have K3 := hidden k3; clear ho3 hg3 k3))
          go_roundw
          case rel => exact ⟨q + 1, a3, c3, by omega, by go_num, by rw [HS3.out], by rw [HS3.out, HF0.out]; exact O3.out, K3.out⟩
          case measure => simp [intOf]; omega
        · obtain rfl : q = k := by omega
          have hfin := O2.out
          rw [HFu.out, HPm.out] at hfin
          rw [HPm.out]
          have HFin := hidden hfin
          clear hfin b1
          go_wp2
          go_ret
          exact ⟨_, rfl, a2, c2, rfl, HFin.out, S2.out⟩
theorem growIn (n : Nat) (w : World) (hn : n * 8 ≤ 140737488355328) :
    Calls Tryd.prog 83 #[.slice none 0 0, .int .i64 n] w fun e w' => ∃ u, e = .returned u ∧ ∃ a' c', u = .slice a' 0 c' ∧ w'.ownsRow w.heap.size 3 1 (.slice a' 0 c') 0 [] ∧ Same w w' := by
  obtain ⟨i0, hi, hz0, hz1, hz2⟩ := info_parts infoI
  rcases Nat.eq_zero_or_pos n with rfl | hp
  · have := Any8.slices_Grow_room growI none 0 0 0 w (Nat.le_refl _) (by decide) (by decide) (Nat.le_refl _)
    change Calls Tryd.prog 83 _ _ _ at this
    refine this.mono ?_
    rintro e w' ⟨rfl, rfl⟩
    exact ⟨_, rfl, none, 0, rfl, World.ownsRow_nil _ _ _ _, Kept.refl _ _⟩
  · have := Any8.slices_Grow_grow growI i0 _ hi hz0 (by rw [hz1]; decide) none 0 0 n [] w (Nat.le_refl _) (by omega) (by rw [hz2, Nat.zero_add]; exact hn) (by omega) (by simp) (fun _ => rfl) (fun a h => by cases h)
    change Calls Tryd.prog 83 _ _ _ at this
    refine this.mono ?_
    rintro e w' ⟨rfl, rfl⟩
    have hG := grownCap_ge w (0 + n) 0 3
    have hM := grownCap_le_maxLen w (0 + n) 0 3 (by unfold maxLen; omega)
    refine ⟨_, rfl, _, _, rfl, ⟨by simp, Or.inr ⟨w.heap.size, _, _, rfl, Nat.le_refl _, blk_new w.drew _, Nat.zero_le _, hM, ?_, by simp⟩⟩, ((Kept.refl _ w).drew).alloc _⟩
    simp only [Array.size_append, size_zeroCells, Value.cells, List.size_toArray, List.length_nil]
    change 0 + (0 + n - 0) * 1 + (grownCap w (0 + n) 0 3 - (0 + n)) * 1 = grownCap w (0 + n) 0 3 * 1
    omega
set_option maxHeartbeats 2000000 in
set_option maxRecDepth 100000 in
theorem concatI (ls : List (List Int)) (b : Nat) (A : Nat → Option Addr) (C : Nat → Nat) (m : Nat) (w : World) (hm : ls.length = m) (hm3 : m ≤ 3)
    (hc : ∀ j (h : j < ls.length), w.cell? ⟨b, j, none⟩ = some (.slice (A j) ls[j].length (C j)) ∧ Row w (.slice (A j) ls[j].length (C j)) (IS ls[j])) (hN : ls.flatten.length * 8 ≤ 140737488355328) :
    Calls Tryd.prog 57 #[.slice (some ⟨b, 0, none⟩) m m] w fun e w' => ∃ u, e = .returned u ∧ ∃ a' c', u = .slice a' ls.flatten.length c' ∧ w'.ownsRow w.heap.size 3 1 (.slice a' ls.flatten.length c') ls.flatten.length (IS ls.flatten) ∧ Same w w' := by
  obtain ⟨i0, hi, hz0, hz1, hz2⟩ := info_parts infoI
  obtain ⟨P, hP⟩ : ∃ P : Nat → Nat, ∀ q, P q = (ls.take q).flatten.length := ⟨_, fun _ => rfl⟩
  obtain ⟨Q, hQ⟩ : ∃ Q : Nat → Nat, ∀ q (h : q < ls.length), Q q = ls[q].length := ⟨fun q => (ls[q]?.getD []).length, fun q h => by simp [h]⟩
  have hle : ∀ k, P k ≤ ls.flatten.length := fun k => by
    rw [hP]
    conv => rhs; rw [← List.take_append_drop k ls]
    rw [List.flatten_append, List.length_append]; omega
  have hst : ∀ k (h : k < ls.length), (ls.take (k + 1)).flatten = (ls.take k).flatten ++ ls[k] := fun k h => by
    rw [List.take_succ_eq_append_getElem h, List.flatten_append]; simp
  have hPs : ∀ k, k < m → P (k + 1) = P k + Q k := fun k h => by
    rw [hP, hP, hst k (by omega), List.length_append, hQ k (by omega)]
  have hfu : (ls.take m).flatten = ls.flatten := by rw [List.take_of_length_le (by omega)]
  have hPm : P m = ls.flatten.length := by rw [hP, hfu]
  have HC : Hid (∀ j, j < m → w.cell? ⟨b, j, none⟩ = some (.slice (A j) (Q j) (C j)) ∧ ∃ L, L.length = Q j ∧ Row w (.slice (A j) (Q j) (C j)) (IS L) ∧ IS (ls.take (j + 1)).flatten = IS (ls.take j).flatten ++ IS L) := hidden (fun j hj => by
    obtain ⟨h1, h2⟩ := hc j (by omega)
    rw [← hQ j (by omega)] at h1 h2
    exact ⟨h1, _, (hQ j (by omega)).symm, h2, by rw [hst j (by omega)]; simp [IS]⟩)
  obtain ⟨N, hNe⟩ : ∃ N, N = ls.flatten.length := ⟨_, rfl⟩
  have HFu : Hid (IS (ls.take m).flatten = IS ls.flatten) := hidden (by rw [hfu])
  have HG := hidden (fun W => growIn N W (by rw [hNe]; exact hN))
  have HP0 : Hid (P 0 = 0) := hidden (by rw [hP]; rfl)
  have HE0 : Hid (IS (ls.take 0).flatten = []) := hidden rfl
  rw [← hNe] at hN hle hPm ⊢
  have HLe := hidden hle
  have HPs := hidden hPs
  have HPm := hidden hPm
  obtain ⟨F, hF⟩ : ∃ F : Nat → List Value, ∀ j, IS (ls.take j).flatten = F j := ⟨_, fun _ => rfl⟩
  have HCF : Hid (∀ j, j < m → w.cell? ⟨b, j, none⟩ = some (.slice (A j) (Q j) (C j)) ∧ ∃ L, L.length = Q j ∧ Row w (.slice (A j) (Q j) (C j)) (IS L) ∧ F (j + 1) = F j ++ IS L) := hidden (fun j hj => by
    have := HC.out j hj
    rw [hF, hF] at this
    exact this)
  rw [hF] at HFu HE0
  clear hc hm hle hst hfu hNe hPs hP hQ hPm HC hF
  go_enter Tryd.func57, Tryd.ntmps57
  go_wp2
  go_loop [3, 11] (fun s i => ∃ k : Nat, k ≤ m ∧ i = .int .i64 k ∧ s = .int .i64 (P k : Nat)) (fun _ i => m - (intOf i).toNat)
  case atStart => exact ⟨0, Nat.zero_le _, rfl, by rw [HP0.out]; rfl⟩
  case round =>
    obtain ⟨k, hk, rfl, rfl⟩ := hrel
    have b1 := HLe.out k
    by_cases hlt : k < m
    · obtain ⟨d0, _⟩ := HCF.out k hlt
      have b2 := HLe.out (k + 1)
      have HS3 := hidden (HPs.out k hlt)
      rw [HPs.out k hlt] at b2
      have hk1 : (k : Int) < m := by omega
      go_wp2
      go_round
      case rel => exact ⟨k + 1, by omega, by go_num, by rw [HS3.out]; go_num⟩
      case measure => simp [intOf]; omega
    · obtain rfl : k = m := by omega
      rw [HPm.out]
      clear b1
      go_wp2_with (first
        | (go_at_call 83; refine (HG.out _).mono ?_; rintro e w1 ⟨u, rfl, a', c', rfl, ho, k1⟩; have O1 := hidden ho; have K1 := hidden k1; clear ho k1))
      go_loopw [6, 27] (fun v i wr => ∃ (q : Nat) (a2 : Option Addr) (c2 : Nat), q ≤ k ∧ i = .int .i64 q ∧ v = .slice a2 (P q) c2 ∧ wr.ownsRow w.heap.size 3 1 (.slice a2 (P q) c2) (P q) (F q) ∧ Same w wr) (fun _ i _ => k - (intOf i).toNat)
      case atStart => exact ⟨0, a', c', Nat.zero_le _, rfl, by rw [HP0.out], by rw [HP0.out, HE0.out]; exact O1.out, K1.out⟩
      case round =>
        obtain ⟨q, a2, c2, hq, rfl, rfl, ho2, hs2⟩ := hrel
        have O2 := hidden ho2
        have S2 := hidden hs2
        have b1 := HLe.out q
        clear ho2 hs2
        by_cases hlt : q < k
        · obtain ⟨d0, L, hL, r0, hf0⟩ := HCF.out q hlt
          have R0 := hidden r0
          have HF0 := hidden hf0
          have HLL := hidden hL
          have d1 := S2.out.cell (fun h => h) d0
          have b2 := HLe.out (q + 1)
          have HS3 := hidden (HPs.out q hlt)
          rw [HPs.out q hlt] at b2
          have hk1 : (q : Int) < k := by omega
          have hz := S2.out.size
          clear r0 d0 hf0 hL
          go_wp2_with (first
            | (at_builtin; refine wpList_append_any rfl _ _ 23 rfl w.heap.size 3 i0 _ 1 8 Tryd.underlying23 hi hz0 hz1 hz2 rfl (by decide) a2 (P q) c2 (F q) rfl O2.out (A q) (Q q) (C q) (IS L) rfl (by rw [IS_len, Nat.mul_one, HLL.out]) ((R0.out.same S2.out).lies) (IS_one _) (by unfold maxLen; omega) (by omega) hz ?_; intro a3 c3 w3 ho3 hg3; have k3 := same_grown (m := 0) S2.out O2.out hg3; have O3 := hidden ho3; have K3 := hidden k3; clear ho3 hg3 k3))
          go_roundw
          case rel => exact ⟨q + 1, a3, c3, by omega, by go_num, by rw [HS3.out], by rw [HS3.out, HF0.out]; exact O3.out, K3.out⟩
          case measure => simp [intOf]; omega
        · obtain rfl : q = k := by omega
          have hfin := O2.out
          rw [HFu.out, HPm.out] at hfin
          rw [HPm.out]
          have HFin := hidden hfin
          clear hfin b1
          go_wp2
          go_ret
          exact ⟨_, rfl, a2, c2, rfl, HFin.out, S2.out⟩
end Go.Proofs.YtpjgghalnkfdkaaDoor
