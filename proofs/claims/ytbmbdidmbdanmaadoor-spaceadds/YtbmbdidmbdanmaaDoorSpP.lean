/- Free runs: pure. Of no program. -/
namespace Go.Proofs.YtbmbdidmbdanmaaDoor
set_option linter.unusedVariables false
/-- The free runs among the first i: where each begins, how many it has. -/
def rp (t : Nat → Bool) : Nat → List (Nat × Nat)
  | 0 => []
  | i + 1 => if t i then rp t i else match (rp t i).getLast? with
    | some (a, n) => if a + n = i then (rp t i).dropLast ++ [(a, n + 1)] else rp t i ++ [(i, 1)]
    | none => [(i, 1)]
theorem rp_succ (t : Nat → Bool) (i : Nat) : rp t (i + 1) = if t i then rp t i else match (rp t i).getLast? with
    | some (a, n) => if a + n = i then (rp t i).dropLast ++ [(a, n + 1)] else rp t i ++ [(i, 1)]
    | none => [(i, 1)] := rfl
theorem rp_set {t : Nat → Bool} {i : Nat} (h : t i = true) : rp t (i + 1) = rp t i := by rw [rp_succ, h]; rfl
theorem rp_new {t : Nat → Bool} {i : Nat} (h : t i = false) (hc : ∀ r ∈ rp t i, r.1 + r.2 < i) : rp t (i + 1) = rp t i ++ [(i, 1)] := by
  rw [rp_succ, h]
  simp only [Bool.false_eq_true, if_false]
  cases hl : (rp t i).getLast? with
  | none => rw [List.getLast?_eq_none_iff.1 hl]; rfl
  | some r =>
    obtain ⟨a, n⟩ := r
    have hm := List.mem_of_getLast? hl
    have := hc _ hm
    simp only at this
    show (if a + n = i then _ else _) = _
    rw [if_neg (by omega)]
theorem rp_more {t : Nat → Bool} {i a n : Nat} {l : List (Nat × Nat)} (h : t i = false) (hl : rp t i = l ++ [(a, n)]) (he : a + n = i) : rp t (i + 1) = l ++ [(a, n + 1)] := by
  rw [rp_succ, h, hl]
  simp [he]
theorem rp_ends (t : Nat → Bool) : ∀ i, ∀ r ∈ rp t i, r.1 + r.2 ≤ i ∧ 1 ≤ r.2
  | 0, r, h => by simp [rp] at h
  | i + 1, r, h => by
    have ih := rp_ends t i
    cases ht : t i
    · by_cases hc : ∀ r ∈ rp t i, r.1 + r.2 < i
      · rw [rp_new ht hc] at h
        rcases List.mem_append.1 h with h | h
        · have := ih r h; omega
        · simp at h; subst h; simp
      · rw [rp_succ, ht] at h
        simp only [Bool.false_eq_true, if_false] at h
        cases hl : (rp t i).getLast? with
        | none => rw [hl] at h; simp at h; subst h; simp
        | some x =>
          obtain ⟨a, n⟩ := x
          rw [hl] at h
          have hm := ih _ (List.mem_of_getLast? hl)
          simp only at hm h
          split at h
          · rcases List.mem_append.1 h with h | h
            · have := ih r (List.dropLast_subset _ h); omega
            · simp at h; subst h; simp; omega
          · rcases List.mem_append.1 h with h | h
            · have := ih r h; omega
            · simp at h; subst h; simp
    · rw [rp_set ht] at h
      have := ih r h
      omega
theorem rp_skip {t : Nat → Bool} {a : Nat} : ∀ (k : Nat), (∀ j, a ≤ j → j < a + k → t j = true) → rp t (a + k) = rp t a
  | 0, _ => rfl
  | k + 1, h => by
    rw [← Nat.add_assoc, rp_set (h (a + k) (by omega) (by omega)), rp_skip k (fun j h1 h2 => h j h1 (by omega))]
theorem rp_run {t : Nat → Bool} {a : Nat} (hc : ∀ r ∈ rp t a, r.1 + r.2 < a) : ∀ (k : Nat), (∀ j, a ≤ j → j < a + (k + 1) → t j = false) → rp t (a + (k + 1)) = rp t a ++ [(a, k + 1)]
  | 0, h => rp_new (h a (by omega) (by omega)) hc
  | k + 1, h => by
    have ih := rp_run hc k (fun j h1 h2 => h j h1 (by omega))
    have h2 := rp_more (i := a + (k + 1)) (h (a + (k + 1)) (by omega) (by omega)) ih rfl
    rw [show a + (k + 1 + 1) = a + (k + 1) + 1 by omega]
    exact h2
/-- Each run begins behind the ones ahead; its places are free. -/
theorem rp_free (t : Nat → Bool) : ∀ i, ∀ r ∈ rp t i, ∀ j, r.1 ≤ j → j < r.1 + r.2 → t j = false
  | 0, r, h => by simp [rp] at h
  | i + 1, r, h => by
    have ih := rp_free t i
    cases ht : t i
    · rw [rp_succ, ht] at h
      simp only [Bool.false_eq_true, if_false] at h
      cases hl : (rp t i).getLast? with
      | none => rw [hl] at h; simp at h; subst h; intro j h1 h2; simp at h1 h2; have : j = i := by omega
                subst this; exact ht
      | some x =>
        obtain ⟨a, n⟩ := x
        rw [hl] at h
        have hm := ih _ (List.mem_of_getLast? hl)
        simp only at hm h
        split at h
        · rename_i he
          rcases List.mem_append.1 h with h | h
          · exact ih r (List.dropLast_subset _ h)
          · simp at h
            subst h
            intro j h1 h2
            simp only at h1 h2
            by_cases e : j = i
            · subst e; exact ht
            · exact hm j h1 (by omega)
        · rcases List.mem_append.1 h with h | h
          · exact ih r h
          · simp at h; subst h; intro j h1 h2; simp at h1 h2; have : j = i := by omega
            subst this; exact ht
    · rw [rp_set ht] at h
      exact ih r h
theorem rp_later {t : Nat → Bool} {e : Nat} (hc : ∀ r ∈ rp t e, r.1 + r.2 < e) : ∀ k, ∃ l, rp t (e + k) = rp t e ++ l ∧ ∀ r ∈ l, e ≤ r.1
  | 0 => ⟨[], by simp, by simp⟩
  | k + 1 => by
    obtain ⟨l, h1, h2⟩ := rp_later hc k
    cases ht : t (e + k)
    · rw [show e + (k + 1) = e + k + 1 by omega, rp_succ, ht, h1]
      simp only [Bool.false_eq_true, if_false]
      rcases List.eq_nil_or_concat l with rfl | ⟨l', x, rfl⟩
      · rw [List.append_nil]
        cases hl : (rp t e).getLast? with
        | none =>
          rw [List.getLast?_eq_none_iff.1 hl]
          exact ⟨[(e + k, 1)], rfl, by simp⟩
        | some x =>
          obtain ⟨a, n⟩ := x
          have := hc _ (List.mem_of_getLast? hl)
          simp only at this
          show ∃ l, (if a + n = e + k then _ else _) = _ ∧ _
          rw [if_neg (by omega)]
          exact ⟨[(e + k, 1)], rfl, by simp⟩
      · obtain ⟨a, n⟩ := x
        rw [List.concat_eq_append] at *
        have ha := h2 (a, n) (by simp)
        rw [← List.append_assoc, List.getLast?_append, List.getLast?_singleton]
        show ∃ l, (if a + n = e + k then _ else _) = _ ∧ _
        split
        · refine ⟨l' ++ [(a, n + 1)], by simp, fun r hr => ?_⟩
          rcases List.mem_append.1 hr with h | h
          · exact h2 r (by simp [h])
          · simp at h; subst h; exact ha
        · refine ⟨l' ++ [(a, n)] ++ [(e + k, 1)], by simp, fun r hr => ?_⟩
          rcases List.mem_append.1 hr with h | h
          · exact h2 r h
          · simp at h; subst h; simp
    · rw [show e + (k + 1) = e + k + 1 by omega, rp_set ht]
      exact ⟨l, h1, h2⟩
theorem rp_prefix {t : Nat → Bool} {e c : Nat} (h : e ≤ c) (ht : e = c ∨ t e = true) : rp t e <+: rp t c := by
  rcases ht with rfl | ht
  · exact List.prefix_refl _
  · by_cases he : e = c
    · subst he; exact List.prefix_refl _
    · obtain ⟨l, h1, _⟩ := rp_later (t := t) (e := e + 1) (fun r hr => by rw [rp_set ht] at hr; have := (rp_ends t e r hr).1; omega) (c - (e + 1))
      rw [show e + 1 + (c - (e + 1)) = c by omega, rp_set ht] at h1
      exact ⟨l, h1.symm⟩
/-- The first run that has so many. -/
def fitR (l : List (Nat × Nat)) (n : Int) : Option (Nat × Nat) := l.find? fun r => decide (n ≤ (r.2 : Int))
end Go.Proofs.YtbmbdidmbdanmaaDoor
