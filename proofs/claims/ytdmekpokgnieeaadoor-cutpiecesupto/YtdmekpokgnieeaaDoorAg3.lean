/- cut: the law's hasPlace: there is one, or none. -/
import Derived.Test.YtdmekpokgnieeaaDoorAg1
namespace Go.Proofs.YtdmekpokgnieeaaDoor
open Go.RowKit Go.Shelf
set_option linter.unusedVariables false
attribute [local go_sem ↓] Go.wp_at_zero Go.wp_at_succ
set_option maxHeartbeats 1000000 in
set_option maxRecDepth 100000 in
theorem hp_yes (v : Value) (L : List Nat) (w : World) (h : NCs w v L) (hs : L.sum ≤ 16777216) (hl : L.length ≤ 16777216) (k left jw : Nat) (hlf : left ≤ 16777216) (h1 : k ≤ jw) (h2 : jw < L.length) (h3 : suf L jw = left) :
    Calls Tryd.prog 17 #[v, .int .i64 (suf L k : Nat), .int .i64 (k : Nat), .int .i64 (left : Nat)] w fun e w' => e = .returned (.bool true) ∧ w = w' := by
  have h' := h
  obtain ⟨a, cap, rfl, _, _⟩ := h'
  have H := hidden h
  have H3 := hidden h3
  obtain ⟨n, hn⟩ : ∃ n, L.length = n := ⟨_, rfl⟩
  have HN := hidden hn
  rw [hn] at hl h2
  rw [show (Value.slice a L.length cap) = .slice a n cap by rw [hn]]
  clear h hn h3
  go_enter Tryd.func17, Tryd.ntmps17
  go_wp2
  go_loop [9, 1] (fun i r => ∃ j : Nat, j ≤ jw ∧ i = .int .i64 j ∧ r = .int .i64 (suf L j : Nat)) (fun i _ => n - (intOf i).toNat)
  case atStart => exact ⟨k, h1, rfl, rfl⟩
  case round =>
    obtain ⟨j, hj, rfl, rfl⟩ := hrel
    have hm : j < L.length := by rw [HN.out]; omega
    have q1 : (j : Int) < (n : Int) := by omega
    have q0 : (0 : Int) ≤ (j : Int) := Int.natCast_nonneg _
    by_cases he : suf L j = left
    · rw [he]
      clear he
      go_wp2
      first | exact ⟨rfl, rfl⟩ | (go_returns; exact ⟨rfl, rfl⟩)
    · have q2 : (((suf L j : Nat) : Int) == (left : Int)) = false := by simpa using (show ¬ ((suf L j : Nat) : Int) = (left : Int) by omega)
      have hjw : j < jw := by
        rcases Nat.lt_or_ge j jw with h | h
        · exact h
        · obtain rfl : j = jw := by omega
          exact absurd H3.out he
      have hat := suf_at L j hm
      have hsm := suf_le L j
      obtain ⟨b, off, rfl, hc⟩ := (show NCs w (.slice a n cap) L by have := H.out; rwa [HN.out] at this).at hm
      generalize L.getD j 0 = x at hat hc
      have q5 : ((suf L j : Nat) : Int) - (x : Int) = ((suf L (j + 1) : Nat) : Int) := by omega
      have q6 : x ≤ 16777216 := by omega
      have q7 : suf L j ≤ 16777216 := by omega
      obtain ⟨r2, hr2⟩ : ∃ r2, r2 = suf L (j + 1) := ⟨_, rfl⟩
      rw [← hr2] at q5
      have HR2 := hidden hr2
      clear he hat hsm hr2
      generalize suf L j = r1 at *
      go_wp2
      go_round
      case rel => exact ⟨j + 1, by omega, by go_num, by rw [← HR2.out]⟩
      case measure => simp [intOf]; omega
set_option maxHeartbeats 1000000 in
set_option maxRecDepth 100000 in
theorem hp_no (v : Value) (L : List Nat) (w : World) (h : NCs w v L) (hs : L.sum ≤ 16777216) (hl : L.length ≤ 16777216) (k left : Nat) (hk : k ≤ L.length) (hlf : left ≤ 16777216) (h1 : ∀ j, k ≤ j → j < L.length → suf L j ≠ left) :
    Calls Tryd.prog 17 #[v, .int .i64 (suf L k : Nat), .int .i64 (k : Nat), .int .i64 (left : Nat)] w fun e w' => e = .returned (.bool false) ∧ w = w' := by
  have h' := h
  obtain ⟨a, cap, rfl, _, _⟩ := h'
  have H := hidden h
  have H1 := hidden h1
  obtain ⟨n, hn⟩ : ∃ n, L.length = n := ⟨_, rfl⟩
  have HN := hidden hn
  rw [hn] at hl hk
  rw [show (Value.slice a L.length cap) = .slice a n cap by rw [hn]]
  clear h hn h1
  go_enter Tryd.func17, Tryd.ntmps17
  go_wp2
  go_loop [9, 1] (fun i r => ∃ j : Nat, k ≤ j ∧ j ≤ n ∧ i = .int .i64 j ∧ r = .int .i64 (suf L j : Nat)) (fun i _ => n - (intOf i).toNat)
  case atStart => exact ⟨k, Nat.le_refl _, hk, rfl, rfl⟩
  case round =>
    obtain ⟨j, hj0, hj, rfl, rfl⟩ := hrel
    by_cases hjn : j < n
    · have hm : j < L.length := by rw [HN.out]; omega
      have q1 : (j : Int) < (n : Int) := by omega
      have q0 : (0 : Int) ≤ (j : Int) := Int.natCast_nonneg _
      have he := H1.out j hj0 hm
      have q2 : (((suf L j : Nat) : Int) == (left : Int)) = false := by simpa using (show ¬ ((suf L j : Nat) : Int) = (left : Int) by omega)
      have hat := suf_at L j hm
      have hsm := suf_le L j
      obtain ⟨b, off, rfl, hc⟩ := (show NCs w (.slice a n cap) L by have := H.out; rwa [HN.out] at this).at hm
      generalize L.getD j 0 = x at hat hc
      have q5 : ((suf L j : Nat) : Int) - (x : Int) = ((suf L (j + 1) : Nat) : Int) := by omega
      have q6 : x ≤ 16777216 := by omega
      have q7 : suf L j ≤ 16777216 := by omega
      obtain ⟨r2, hr2⟩ : ∃ r2, r2 = suf L (j + 1) := ⟨_, rfl⟩
      rw [← hr2] at q5
      have HR2 := hidden hr2
      clear he hat hsm hr2
      generalize suf L j = r1 at *
      go_wp2
      go_round
      case rel => exact ⟨j + 1, by omega, by omega, by go_num, by rw [← HR2.out]⟩
      case measure => simp [intOf]; omega
    · obtain rfl : j = n := by omega
      have q1 : ¬ (j : Int) < (j : Int) := by omega
      generalize suf L j = r1 at *
      go_wp2
      first | exact ⟨rfl, rfl⟩ | (go_returns; exact ⟨rfl, rfl⟩)
end Go.Proofs.YtdmekpokgnieeaaDoor
