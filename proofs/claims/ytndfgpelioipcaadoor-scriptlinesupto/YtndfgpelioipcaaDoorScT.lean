/- script: the document's split of a printed line tells its words: pure. -/
import Derived.Test.YtndfgpelioipcaaDoorSc19
import Derived.Test.YtndfgpelioipcaaDoorScR
namespace Go.Proofs.YtndfgpelioipcaaDoor
open Go.RowKit
set_option linter.unusedVariables false
set_option linter.unusedSimpArgs false
/-- A word that the document's split takes whole. -/
def ClD (x : List UInt8) : Prop := ∀ r, spR [] false (x ++ r) = spR x false r
theorem sp_bare (cur : List UInt8) (c : UInt8) (r : List UInt8) (h1 : c ≠ 34) (h2 : c ≠ 32) : spR cur false (c :: r) = spR (cur ++ [c]) false r := by
  rw [spR_cons, if_neg (fun h => h2 h.1), if_neg (by simp), if_neg (fun h => h1 h.1)]
theorem sp_bares : ∀ (x cur r : List UInt8), (∀ c ∈ x, c ≠ 34 ∧ c ≠ 32) → spR cur false (x ++ r) = spR (cur ++ x) false r
  | [], cur, r, _ => by simp
  | c :: x, cur, r, h => by
    have hc := h c (by simp)
    rw [List.cons_append, sp_bare cur c _ hc.1 hc.2, sp_bares x _ r (fun d hd => h d (by simp [hd])), List.append_assoc]
    rfl
theorem cld_bare (x : List UInt8) (h : ∀ c ∈ x, c ≠ 34 ∧ c ≠ 32) : ClD x := fun r => by rw [sp_bares x [] r h, List.nil_append]
theorem sp_in (cur : List UInt8) (c : UInt8) (r : List UInt8) (h1 : c ≠ 34) (h2 : c ≠ 92) : spR cur true (c :: r) = spR (cur ++ [c]) true r := by
  rw [spR_cons, if_neg (by simp), if_neg (fun h => h2 h.1), if_neg (fun h => h1 h.1)]
theorem sp_esc (cur : List UInt8) (d : UInt8) (r : List UInt8) : spR cur true (92 :: d :: r) = spR (cur ++ [92, d]) true r := by
  rw [spR_cons, if_neg (by simp), if_pos ⟨rfl, rfl⟩]
theorem sp_qb : ∀ (l cur r : List UInt8), spR cur true (qb l ++ r) = spR (cur ++ qb l) true r
  | [], cur, r => by simp [qb_nil]
  | b :: l, cur, r => by
    rw [qb_cons, List.append_assoc]
    have key : ∀ s, spR cur true (q1 b ++ s) = spR (cur ++ q1 b) true s := fun s => by
      unfold q1
      split
      · rename_i h
        have h34 : b ≠ 34 := fun e => by subst e; revert h; decide
        have h92 : b ≠ 92 := fun e => by subst e; revert h; decide
        rw [List.singleton_append, sp_in cur b _ h34 h92]
      · split
        · rw [List.cons_append, List.cons_append, List.nil_append, sp_esc]
        · have e1 := hexD_ok (b.toNat / 16) (by have := b.toNat_lt; omega)
          have e2 := hexD_ok (b.toNat % 16) (by omega)
          rw [List.cons_append, List.cons_append, List.cons_append, List.cons_append, List.nil_append, sp_esc, sp_in _ _ _ e1.1 e1.2, sp_in _ _ _ e2.1 e2.2, List.append_assoc, List.append_assoc]
          rfl
    rw [key, sp_qb l _ r, List.append_assoc]
theorem cld_quote (l : List UInt8) : ClD (quoteL l) := fun r => by
  unfold quoteL
  rw [List.cons_append, spR_cons, if_neg (by decide), if_neg (by decide), if_pos ⟨rfl, .inr rfl⟩, List.append_assoc]
  change spR [34] true _ = _
  rw [sp_qb]
  change spR (34 :: qb l) true (34 :: r) = _
  rw [spR_cons, if_neg (by decide), if_neg (by decide), if_pos ⟨rfl, .inl rfl⟩]
  rfl
theorem cld_itoa (n : Int) : ClD (Lib.itoa n) := by
  apply cld_bare
  intro c hc
  have hd : ∀ u, ∀ d ∈ Lib.decDigits u, d ≠ 34 ∧ d ≠ 32 := fun u d hd => by
    obtain ⟨c, r, he, _, _, h3⟩ := dec_head u
    rw [he] at hd
    have := h3 d hd
    refine ⟨fun e => ?_, fun e => ?_⟩ <;> (rw [e] at this; revert this; decide)
  unfold Lib.itoa at hc
  split at hc
  · rcases List.mem_cons.1 hc with rfl | hc
    · decide
    · exact hd _ c hc
  · exact hd _ c hc
theorem cld_nm (k : Nat) (h : k ≤ 19) : ClD (nmL k) := by
  apply cld_bare
  have : ∀ i : Fin 20, ∀ c ∈ nmL i.val, c ≠ 34 ∧ c ≠ 32 := by decide +kernel
  exact this ⟨k, by omega⟩
theorem split_jn : ∀ (x : List UInt8) (xs : List (List UInt8)), (∀ y ∈ x :: xs, ClD y) → splitL (jn (x :: xs)) = x :: xs
  | x, [], h => by
    have h1 := h x (by simp) []
    rw [List.append_nil, spR_nil] at h1
    rw [jn_one]
    exact h1
  | x, y :: ys, h => by
    have h1 := h x (by simp) (32 :: jn (y :: ys))
    rw [spR_cons, if_pos ⟨rfl, rfl⟩] at h1
    have h2 := split_jn y ys (fun z hz => h z (by simp [hz]))
    rw [jn_cons]
    unfold splitL at h2 ⊢
    rw [h1, h2]
end Go.Proofs.YtndfgpelioipcaaDoor
