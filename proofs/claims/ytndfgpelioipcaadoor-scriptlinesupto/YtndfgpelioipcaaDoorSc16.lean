/- script: the document's name, words and PrintOp, walked. (Made by mksc16.py.) -/
import Derived.Test.YtndfgpelioipcaaDoorSc12
import Derived.Test.YtndfgpelioipcaaDoorSc15
namespace Go.Proofs.YtndfgpelioipcaaDoor
open Go.RowKit
set_option linter.unusedVariables false
set_option linter.unusedSimpArgs false
theorem kinds19 {k : Int} (h1 : 1 ≤ k) (h2 : k ≤ 19) : k = 1 ∨ k = 2 ∨ k = 3 ∨ k = 4 ∨ k = 5 ∨ k = 6 ∨ k = 7 ∨ k = 8 ∨ k = 9 ∨ k = 10 ∨ k = 11 ∨ k = 12 ∨ k = 13 ∨ k = 14 ∨ k = 15 ∨ k = 16 ∨ k = 17 ∨ k = 18 ∨ k = 19 := by omega
/-- A letter's number among the document's words. -/
def cd (c : UInt8) : Int := if c = 72 then 1 else if c = 79 then 2 else if c = 78 then 3 else if c = 70 then 4 else if c = 80 then 5 else if c = 81 then 6 else 7
set_option maxHeartbeats 4000000 in
set_option maxRecDepth 100000 in
theorem nameD_any (k : Int) (w : World) : Calls Tryd.prog 25 #[.int .i64 k] w fun e w' => e = .returned (.string (BA (if 1 ≤ k ∧ k ≤ 19 then nmL k.toNat else []))) ∧ Same w w' := by
  by_cases h : 1 ≤ k ∧ k ≤ 19
  · rw [if_pos h]
    rcases kinds19 h.1 h.2 with rfl | rfl | rfl | rfl | rfl | rfl | rfl | rfl | rfl | rfl | rfl | rfl | rfl | rfl | rfl | rfl | rfl | rfl | rfl
    all_goals
      clear h
      go_enter Tryd.func25, Tryd.ntmps25
      go_wp2
      go_returns
      exact ⟨rfl, same_alloc _ _⟩
  · rw [if_neg h]
    by_cases h1 : k < 1
    · have d1 : decide (k < 1) = true := decide_eq_true h1
      clear h
      go_enter Tryd.func25, Tryd.ntmps25
      go_wp2
      go_returns
      exact ⟨rfl, same_alloc _ _⟩
    · have d1 : decide (k < 1) = false := decide_eq_false h1
      have d2 : decide (20 ≤ k) = true := decide_eq_true (by omega)
      clear h h1
      go_enter Tryd.func25, Tryd.ntmps25
      go_wp2
      go_returns
      exact ⟨rfl, same_alloc _ _⟩
theorem row_lit (w : World) (zs : List Int) (n : Nat) (hn : zs.length = n) (hm : n ≤ 9) : (w.alloc (.cells (IS zs).toArray 3)).ownsRow 0 3 1 (.slice (some ⟨w.heap.size, 0, none⟩) n n) n (IS zs) := by
  have h := World.ownsRow_lit (base := 0) (e := 3) (size := 1) w (IS zs).toArray n (Nat.zero_le _) (by unfold maxLen; omega) (by simp [IS_len, hn])
  rw [List.toList_toArray] at h
  exact h
set_option maxHeartbeats 4000000 in
set_option maxRecDepth 100000 in
theorem wordsD_any (k : Int) (h1 : 1 ≤ k) (h2 : k ≤ 19) (w : World) : Calls Tryd.prog 26 #[.int .i64 k] w fun e w' => (∃ a c, e = .returned (.slice a (flL k.toNat).length c) ∧ w'.ownsRow 0 3 1 (.slice a (flL k.toNat).length c) (flL k.toNat).length (IS ((flL k.toNat).map cd))) ∧ Same w w' := by
  rcases kinds19 h1 h2 with rfl | rfl | rfl | rfl | rfl | rfl | rfl | rfl | rfl | rfl | rfl | rfl | rfl | rfl | rfl | rfl | rfl | rfl | rfl
  · clear h1 h2
    go_enter Tryd.func26, Tryd.ntmps26
    go_wp2
    go_returns
    exact ⟨⟨_, _, rfl, row_lit w [5, 4] 2 rfl (by decide)⟩, same_alloc _ _⟩
  · clear h1 h2
    go_enter Tryd.func26, Tryd.ntmps26
    go_wp2
    go_returns
    exact ⟨⟨_, _, rfl, row_lit w [1] 1 rfl (by decide)⟩, same_alloc _ _⟩
  · clear h1 h2
    go_enter Tryd.func26, Tryd.ntmps26
    go_wp2
    go_returns
    exact ⟨⟨_, _, rfl, row_lit w [1, 2, 3] 3 rfl (by decide)⟩, same_alloc _ _⟩
  · clear h1 h2
    go_enter Tryd.func26, Tryd.ntmps26
    go_wp2
    go_returns
    exact ⟨⟨_, _, rfl, row_lit w [1, 2, 7] 3 rfl (by decide)⟩, same_alloc _ _⟩
  · clear h1 h2
    go_enter Tryd.func26, Tryd.ntmps26
    go_wp2
    go_returns
    exact ⟨⟨_, _, rfl, row_lit w [1, 3] 2 rfl (by decide)⟩, same_alloc _ _⟩
  · clear h1 h2
    go_enter Tryd.func26, Tryd.ntmps26
    go_wp2
    go_returns
    exact ⟨⟨_, _, rfl, row_lit w [5] 1 rfl (by decide)⟩, same_alloc _ _⟩
  · clear h1 h2
    go_enter Tryd.func26, Tryd.ntmps26
    go_wp2
    go_returns
    exact ⟨⟨_, _, rfl, row_lit w [5] 1 rfl (by decide)⟩, same_alloc _ _⟩
  · clear h1 h2
    go_enter Tryd.func26, Tryd.ntmps26
    go_wp2
    go_returns
    exact ⟨⟨_, _, rfl, row_lit w [5] 1 rfl (by decide)⟩, same_alloc _ _⟩
  · clear h1 h2
    go_enter Tryd.func26, Tryd.ntmps26
    go_wp2
    go_returns
    exact ⟨⟨_, _, rfl, row_lit w [5] 1 rfl (by decide)⟩, same_alloc _ _⟩
  · clear h1 h2
    go_enter Tryd.func26, Tryd.ntmps26
    go_wp2
    go_returns
    exact ⟨⟨_, _, rfl, row_lit w [5, 6] 2 rfl (by decide)⟩, same_alloc _ _⟩
  · clear h1 h2
    go_enter Tryd.func26, Tryd.ntmps26
    go_wp2
    go_returns
    exact ⟨⟨_, _, rfl, row_lit w [5] 1 rfl (by decide)⟩, same_alloc _ _⟩
  · clear h1 h2
    go_enter Tryd.func26, Tryd.ntmps26
    go_wp2
    go_returns
    exact ⟨⟨_, _, rfl, row_lit w [5, 6] 2 rfl (by decide)⟩, same_alloc _ _⟩
  · clear h1 h2
    go_enter Tryd.func26, Tryd.ntmps26
    go_wp2
    go_returns
    exact ⟨⟨_, _, rfl, row_lit w [1] 1 rfl (by decide)⟩, same_alloc _ _⟩
  · clear h1 h2
    go_enter Tryd.func26, Tryd.ntmps26
    go_wp2
    go_returns
    exact ⟨⟨_, _, rfl, World.ownsRow_nil _ _ _ _⟩, Kept.refl _ _⟩
  · clear h1 h2
    go_enter Tryd.func26, Tryd.ntmps26
    go_wp2
    go_returns
    exact ⟨⟨_, _, rfl, World.ownsRow_nil _ _ _ _⟩, Kept.refl _ _⟩
  · clear h1 h2
    go_enter Tryd.func26, Tryd.ntmps26
    go_wp2
    go_returns
    exact ⟨⟨_, _, rfl, World.ownsRow_nil _ _ _ _⟩, Kept.refl _ _⟩
  · clear h1 h2
    go_enter Tryd.func26, Tryd.ntmps26
    go_wp2
    go_returns
    exact ⟨⟨_, _, rfl, World.ownsRow_nil _ _ _ _⟩, Kept.refl _ _⟩
  · clear h1 h2
    go_enter Tryd.func26, Tryd.ntmps26
    go_wp2
    go_returns
    exact ⟨⟨_, _, rfl, World.ownsRow_nil _ _ _ _⟩, Kept.refl _ _⟩
  · clear h1 h2
    go_enter Tryd.func26, Tryd.ntmps26
    go_wp2
    go_returns
    exact ⟨⟨_, _, rfl, World.ownsRow_nil _ _ _ _⟩, Kept.refl _ _⟩
theorem jn_snoc : ∀ (l : List (List UInt8)) (x : List UInt8), l ≠ [] → jn (l ++ [x]) = jn l ++ 32 :: x
  | [], x, h => absurd rfl h
  | [y], x, _ => by rw [List.singleton_append, jn_cons, jn_one, jn_one]
  | y :: z :: l, x, _ => by
    have ih := jn_snoc (z :: l) x (by simp)
    rw [List.cons_append, List.cons_append, jn_cons, jn_cons, ← List.cons_append, ih]
    simp
theorem clr_other {o : OpR} {b c : UInt8} (hb : isL b = true) (hc : isL c = true) (h : b ≠ c) : (o.clr b).wd c = o.wd c ∧ (o.clr b).may c = o.may c := by
  rcases isL_cases hb with rfl | rfl | rfl | rfl | rfl | rfl | rfl <;> rcases isL_cases hc with rfl | rfl | rfl | rfl | rfl | rfl | rfl <;> first
    | exact absurd rfl h
    | exact ⟨rfl, rfl⟩
theorem fl_nodup (k : Nat) (h : k ≤ 19) : (flL k).Nodup := by
  have : ∀ i : Fin 20, (flL i.val).Nodup := by decide +kernel
  exact this ⟨k, by omega⟩
end Go.Proofs.YtndfgpelioipcaaDoor
