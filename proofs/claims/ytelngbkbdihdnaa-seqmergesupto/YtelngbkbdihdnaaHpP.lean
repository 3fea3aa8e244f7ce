/- Heaps in a list, whatever the order: pure. Of no program. -/
namespace Go.Proofs.Ytelngbkbdihdnaa
set_option linter.unusedVariables false
/-- An order, told by 'below'. -/
structure Ord {κ : Type} (lt : κ → κ → Bool) : Prop where
  as : ∀ a b, lt a b = true → lt b a = false
  tr : ∀ a b c, lt b a = false → lt c b = false → lt c a = false
section
variable {κ : Type} {lt : κ → κ → Bool}
theorem Ord.rf (o : Ord lt) (a : κ) : lt a a = false := by
  cases h : lt a a
  · rfl
  · exact (o.as a a h).symm.trans h |>.symm ▸ rfl
def IsHeap (lt : κ → κ → Bool) (L : List κ) : Prop := ∀ j (h : j < L.length) (h0 : 0 < j), lt L[j] (L[(j - 1) / 2]'(by omega)) = false
structure Up (lt : κ → κ → Bool) (L : List κ) (i : Nat) : Prop where
  a : ∀ j (h : j < L.length) (h0 : 0 < j), j ≠ i → lt L[j] (L[(j - 1) / 2]'(by omega)) = false
  b : ∀ j (h : j < L.length) (h0 : 0 < j) (e : (j - 1) / 2 = i) (i0 : 0 < i), lt L[j] (L[(i - 1) / 2]'(by omega)) = false
structure Down (lt : κ → κ → Bool) (L : List κ) (i : Nat) : Prop where
  a : ∀ j (h : j < L.length) (h0 : 0 < j), (j - 1) / 2 ≠ i → lt L[j] (L[(j - 1) / 2]'(by omega)) = false
  b : ∀ j (h : j < L.length) (h0 : 0 < j) (e : (j - 1) / 2 = i) (i0 : 0 < i), lt L[j] (L[(i - 1) / 2]'(by omega)) = false
def swp (L : List κ) (i j : Nat) (hi : i < L.length) (hj : j < L.length) : List κ := (L.set i L[j]).set j L[i]
theorem swp_len (L : List κ) (i j : Nat) (hi : i < L.length) (hj : j < L.length) : (swp L i j hi hj).length = L.length := by simp [swp]
theorem swp_at (L : List κ) (i j : Nat) (hi : i < L.length) (hj : j < L.length) (k : Nat) (hk : k < L.length) : (swp L i j hi hj)[k]'(by rw [swp_len]; exact hk) = if k = j then L[i] else if k = i then L[j] else L[k] := by
  simp only [swp, List.getElem_set]
  by_cases h1 : j = k
  · subst h1; simp
  · rw [if_neg h1, if_neg (Ne.symm h1)]
    by_cases h2 : i = k
    · subst h2; simp
    · rw [if_neg h2, if_neg (Ne.symm h2)]
theorem swp_perm (L : List κ) (i j : Nat) (hi : i < L.length) (hj : j < L.length) : (swp L i j hi hj).Perm L := List.set_set_perm hi hj
theorem up_swap (o : Ord lt) {L : List κ} {i p : Nat} (h : Up lt L i) (hi : i < L.length) (h0 : 0 < i) (hp : p = (i - 1) / 2) (hl : lt L[i] (L[p]'(by omega)) = true) : Up lt (swp L i p hi (by omega)) p := by
  have hpl : p < L.length := by omega
  have e : lt (L[p]'hpl) L[i] = false := o.as _ _ hl
  refine ⟨fun j hj j0 hjp => ?_, fun j hj j0 hjp p0 => ?_⟩
  · rw [swp_len] at hj
    rw [swp_at _ _ _ _ _ _ hj, swp_at _ _ _ _ _ _ (by omega)]
    by_cases h1 : j = i
    · subst h1
      rw [if_neg (by omega), if_pos rfl, if_pos (by omega)]
      exact e
    · rw [if_neg hjp, if_neg h1]
      by_cases h2 : (j - 1) / 2 = p
      · rw [if_pos h2]
        have := h.a j hj j0 h1
        simp only [h2] at this
        exact o.tr _ _ _ e this
      · rw [if_neg h2]
        by_cases h3 : (j - 1) / 2 = i
        · rw [if_pos h3]
          have := h.b j hj j0 h3 h0
          simp only [← hp] at this
          exact this
        · rw [if_neg h3]
          exact h.a j hj j0 h1
  · rw [swp_len] at hj
    rw [swp_at _ _ _ _ _ _ hj, swp_at _ _ _ _ _ _ (by omega)]
    rw [if_neg (show ¬ (p - 1) / 2 = p by omega), if_neg (show ¬ (p - 1) / 2 = i by omega), if_neg (show ¬ j = p by omega)]
    have hpp := h.a p hpl p0 (by omega)
    by_cases h1 : j = i
    · rw [if_pos h1]; exact hpp
    · rw [if_neg h1]
      have := h.a j hj j0 h1
      simp only [hjp] at this
      exact o.tr _ _ _ hpp this
theorem up_done {L : List κ} {i : Nat} (h : Up lt L i) (hi : i = 0 ∨ ∃ (h : i < L.length) (h0 : 0 < i), lt L[i] (L[(i - 1) / 2]'(by omega)) = false) : IsHeap lt L := by
  intro j hj j0
  by_cases e : j = i
  · subst e
    rcases hi with hi | ⟨_, _, hi⟩
    · omega
    · exact hi
  · exact h.a j hj j0 e
theorem up_start {L : List κ} (h : IsHeap lt L) (x : κ) : Up lt (L ++ [x]) L.length := by
  refine ⟨fun j hj j0 hne => ?_, fun j hj j0 e _ => ?_⟩
  · have hj' : j < L.length := by simp at hj; omega
    rw [List.getElem_append_left hj', List.getElem_append_left (by omega)]
    exact h j hj' j0
  · simp at hj; omega
theorem down_swap (o : Ord lt) {L : List κ} {i b : Nat} (h : Down lt L i) (hb : b < L.length) (hbi : (b - 1) / 2 = i) (b0 : 0 < b) (hmin : ∀ j (hj : j < L.length), 0 < j → (j - 1) / 2 = i → lt L[j] L[b] = false) (hl : lt L[b] (L[i]'(by omega)) = true) : Down lt (swp L i b (by omega) hb) b := by
  have hil : i < L.length := by omega
  have e : lt (L[i]'hil) L[b] = false := o.as _ _ hl
  refine ⟨fun j hj j0 hjp => ?_, fun j hj j0 hjp p0 => ?_⟩
  · rw [swp_len] at hj
    rw [swp_at _ _ _ _ _ _ hj, swp_at _ _ _ _ _ _ (by omega)]
    rw [if_neg hjp]
    by_cases h1 : (j - 1) / 2 = i
    · rw [if_pos h1]
      by_cases h2 : j = b
      · rw [if_pos h2]; exact e
      · rw [if_neg h2, if_neg (by omega)]
        exact hmin j hj j0 h1
    · rw [if_neg h1, if_neg (show ¬ j = b by omega)]
      by_cases h2 : j = i
      · subst h2
        rw [if_pos rfl]
        have := h.b b hb b0 hbi j0
        exact this
      · rw [if_neg h2]
        exact h.a j hj j0 h1
  · rw [swp_len] at hj
    rw [swp_at _ _ _ _ _ _ hj, swp_at _ _ _ _ _ _ (by omega)]
    rw [if_neg (show ¬ j = b by omega), if_neg (show ¬ j = i by omega), if_neg (show ¬ (b - 1) / 2 = b by omega), if_pos hbi]
    have := h.a j hj j0 (by omega)
    simp only [hjp] at this
    exact this
theorem down_done {L : List κ} {i : Nat} (h : Down lt L i) (hi : ∀ j (hj : j < L.length) (j0 : 0 < j) (hji : (j - 1) / 2 = i), lt L[j] (L[i]'(by omega)) = false) : IsHeap lt L := by
  intro j hj j0
  by_cases e : (j - 1) / 2 = i
  · have := hi j hj j0 e
    simp only [e]
    exact this
  · exact h.a j hj j0 e
theorem heap_min (o : Ord lt) {L : List κ} (h : IsHeap lt L) : ∀ j (hj : j < L.length), lt L[j] (L[0]'(by omega)) = false := by
  intro j
  induction j using Nat.strongRecOn with
  | _ j ih =>
    intro hj
    by_cases j0 : j = 0
    · subst j0; exact o.rf _
    · exact o.tr _ _ _ (ih ((j - 1) / 2) (by omega) (by omega)) (h j hj (by omega))
/-- What is left when the first one goes: the last one in its place. -/
def dropL (L : List κ) (h : 0 < L.length) : List κ := (L.set 0 (L[L.length - 1]'(by omega))).take (L.length - 1)
theorem dropL_len (L : List κ) (h : 0 < L.length) : (dropL L h).length = L.length - 1 := by simp [dropL]
theorem dropL_perm (L : List κ) (h : 0 < L.length) : L.Perm (L[0] :: dropL L h) := by
  have hp := List.set_set_perm (as := L) (i := 0) (j := L.length - 1) h (by omega)
  refine hp.symm.trans ?_
  have e : (L.set 0 (L[L.length - 1]'(by omega))).set (L.length - 1) L[0] = dropL L h ++ [L[0]] := by
    apply List.ext_getElem
    · simp [dropL]; omega
    · intro k h1 h2
      simp at h1
      by_cases hk : k < L.length - 1
      · rw [List.getElem_append_left (by simp [dropL]; omega)]
        simp only [dropL, List.getElem_take, List.getElem_set]
        rw [if_neg (by omega)]
      · have : k = L.length - 1 := by omega
        subst this
        rw [List.getElem_append_right (by simp [dropL])]
        simp [dropL]
  rw [e]
  exact List.perm_append_comm
theorem down_start {L : List κ} (hh : IsHeap lt L) (h : 0 < L.length) : Down lt (dropL L h) 0 := by
  refine ⟨fun j hj j0 hne => ?_, fun j hj j0 e h0 => by omega⟩
  rw [dropL_len] at hj
  have := hh j (by omega) j0
  simp only [dropL, List.getElem_take, List.getElem_set]
  rw [if_neg (by omega), if_neg (by omega)]
  exact this
end
end Go.Proofs.Ytelngbkbdihdnaa
