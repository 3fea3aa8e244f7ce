/- script: what is parsed is printed as it stood: pure. -/
import Derived.Test.YtndfgpelioipcaaDoorScQ
namespace Go.Proofs.YtndfgpelioipcaaDoor
open Go.RowKit
set_option linter.unusedVariables false
set_option linter.unusedSimpArgs false
theorem sc_at : ∀ (q : Bool) (P : List UInt8) (i : Nat), sc q P = some i → P[i]? = some 32
  | _, [], i, h => by simp [sc] at h
  | q, [c], i, h => by
    unfold sc at h
    split at h
    · cases h
    · split at h
      · simp [sc] at h
      · split at h
        · rename_i e; cases h; simp [e.1]
        · simp [sc] at h
  | q, c :: d :: r, i, h => by
    unfold sc at h
    split at h
    · cases hs : sc q r with
      | none => simp [hs] at h
      | some j => have := sc_at q r j hs; simp [hs] at h; subst h; simpa using this
    · split at h
      · cases hs : sc (!q) (d :: r) with
        | none => simp [hs] at h
        | some j => have := sc_at (!q) (d :: r) j hs; simp [hs] at h; subst h; simpa using this
      · split at h
        · rename_i e; cases h; simp [e.1]
        · cases hs : sc q (d :: r) with
          | none => simp [hs] at h
          | some j => have := sc_at q (d :: r) j hs; simp [hs] at h; subst h; simpa using this
theorem jn_words (n : Nat) : ∀ P : List UInt8, P.length ≤ n → wordsL P ≠ [] ∧ jn (wordsL P) = P := by
  induction n with
  | zero =>
    intro P h
    obtain rfl : P = [] := List.eq_nil_of_length_eq_zero (by omega)
    rw [words_end (by simp [sc]), jn_one]
    simp
  | succ n ih =>
    intro P h
    cases hs : sc false P with
    | none => rw [words_end hs, jn_one]; simp
    | some i =>
      have hl := sc_lt _ _ _ hs
      have ha := sc_at _ _ _ hs
      obtain ⟨h1, h2⟩ := ih (P.drop (i + 1)) (by rw [List.length_drop]; omega)
      rw [words_cut hs]
      obtain ⟨y, ys, he⟩ := List.exists_cons_of_ne_nil h1
      rw [he] at h2 ⊢
      rw [jn_cons, h2]
      refine ⟨by simp, ?_⟩
      obtain ⟨_, e⟩ := List.getElem?_eq_some_iff.1 ha
      conv => rhs; rw [← List.take_append_drop i P, List.drop_eq_getElem_cons hl, e]
theorem num_some {x : List UInt8} {v : Int} (h : num x = some v) : mayN v = true ∧ Lib.itoa v = x := by
  unfold num at h
  split at h
  · split at h
    · rename_i e; cases h; exact e
    · cases h
  · cases h
theorem setT_get (o : OpR) {c : UInt8} (hc : isT c = true) (t : List UInt8) : (o.setT c t).txt c = t ∧ (o.setT c t).clr c = o.clr c := by
  have hb' := isL_cases (c := c) (by unfold isL; rw [hc]; rfl)
  rcases hb' with rfl | rfl | rfl | rfl | rfl | rfl | rfl <;> first
    | exact ⟨rfl, rfl⟩
    | exact absurd hc (by decide)
theorem setN_get (o : OpR) {c : UInt8} (hl : isL c = true) (hc : isT c = false) (n : Int) : (o.setN c n).num c = n ∧ (o.setN c n).clr c = o.clr c := by
  rcases isL_cases hl with rfl | rfl | rfl | rfl | rfl | rfl | rfl <;> first
    | exact ⟨rfl, rfl⟩
    | exact absurd hc (by decide)
theorem setT_kd (o : OpR) (c : UInt8) (t : List UInt8) : (o.setT c t).kd = o.kd := by unfold OpR.setT; split; (· rfl); split <;> rfl
theorem setN_kd (o : OpR) (c : UInt8) (t : Int) : (o.setN c t).kd = o.kd := by unfold OpR.setN; split; (· rfl); split; (· rfl); split <;> rfl
theorem tak_kd {o o2 : OpR} {c : UInt8} {x : List UInt8} (h : o.tak c x = some o2) : o2.kd = o.kd := by
  unfold OpR.tak at h
  split at h
  · obtain ⟨t, _, rfl⟩ := Option.map_eq_some_iff.1 h; exact setT_kd _ _ _
  · obtain ⟨t, _, rfl⟩ := Option.map_eq_some_iff.1 h; exact setN_kd _ _ _
theorem ps_kd : ∀ (L : List UInt8) (xs : List (List UInt8)) (o1 o : OpR), ps o1 L xs = some o → o.kd = o1.kd
  | [], _, o1, o, h => by simp only [ps, Option.some.injEq] at h; rw [h]
  | _ :: _, [], _, _, h => by simp [ps] at h
  | c :: r, x :: xs, o1, o, h => by
    simp only [ps] at h
    cases ht : o1.tak c x with
    | none => rw [ht] at h; cases h
    | some o2 => rw [ht] at h; rw [ps_kd r xs o2 o h, tak_kd ht]
/-- What was read of the fields is told again. -/
theorem pr_ps : ∀ (L : List UInt8) (xs : List (List UInt8)) (o1 o : OpR), L.Nodup → (∀ c ∈ L, isL c = true) → (∀ c ∈ L, o1.clr c = o1) → xs.length = L.length → ps o1 L xs = some o → pr o L = some (o1, xs)
  | [], xs, o1, o, _, _, _, hx, h => by
    obtain rfl : xs = [] := List.eq_nil_of_length_eq_zero hx
    simp only [ps, Option.some.injEq] at h
    rw [h]
    rfl
  | _ :: _, [], _, _, _, _, _, _, h => by simp [ps] at h
  | c :: r, x :: xs, o1, o, hn, hl, hz, hx, h => by
    have hc := hl c (by simp)
    have hne : ∀ d ∈ r, isL d = true ∧ d ≠ c := fun d hd => ⟨hl d (by simp [hd]), fun e => (List.nodup_cons.1 hn).1 (e ▸ hd)⟩
    have hzc := hz c (by simp)
    have IH := fun o' (h' : ps o1 r xs = some o') => pr_ps r xs o1 o' (List.nodup_cons.1 hn).2 (fun d hd => hl d (by simp [hd])) (fun d hd => hz d (by simp [hd])) (by simpa using hx) h'
    simp only [ps] at h
    unfold OpR.tak at h
    unfold pr
    cases ht : isT c
    · rw [ht] at h
      simp only [Bool.false_eq_true, if_false] at h
      have hnn : isN c = true := by unfold isL at hc; rw [ht] at hc; simpa using hc
      cases hv : nw x with
      | none => rw [hv] at h; cases h
      | some v =>
        rw [hv] at h
        simp only [Option.map_some] at h
        obtain ⟨m1, m2⟩ := num_some hv
        rw [ps_set (t := []) (n := v) c hc (fun q => q.setN c v) (.inr ⟨rfl, hnn⟩) r xs o1 hne] at h
        obtain ⟨o', ho', rfl⟩ := Option.map_eq_some_iff.1 h
        obtain ⟨g1, g2⟩ := setN_get o' hc ht v
        have hk : o'.clr c = o' := by
          have e := ps_set (t := []) (n := 0) c hc (fun q => q.setN c 0) (.inr ⟨rfl, hnn⟩) r xs o1 hne
          have e2 : o1.setN c 0 = o1 := by have := hzc; unfold OpR.clr at this; rw [ht] at this; simpa using this
          simp only [e2, ho', Option.map_some, Option.some.injEq] at e
          unfold OpR.clr
          rw [ht]
          simpa using e.symm
        rw [show (o'.setN c v).may c = true by unfold OpR.may; rw [ht, g1]; simpa using m1, if_pos rfl, g2, hk, IH o' ho']
        simp only [Option.map_some]
        rw [show (o'.setN c v).wd c = x by unfold OpR.wd; rw [ht, g1]; simpa using m2]
    · rw [ht] at h
      simp only [if_true] at h
      cases hv : unq x with
      | none => rw [hv] at h; cases h
      | some v =>
        rw [hv] at h
        simp only [Option.map_some] at h
        have m2 := unq_some hv
        rw [ps_set (t := v) (n := 0) c hc (fun q => q.setT c v) (.inl ⟨rfl, ht⟩) r xs o1 hne] at h
        obtain ⟨o', ho', rfl⟩ := Option.map_eq_some_iff.1 h
        obtain ⟨g1, g2⟩ := setT_get o' ht v
        have hk : o'.clr c = o' := by
          have e := ps_set (t := []) (n := 0) c hc (fun q => q.setT c []) (.inl ⟨rfl, ht⟩) r xs o1 hne
          have e2 : o1.setT c [] = o1 := by have := hzc; unfold OpR.clr at this; rw [ht] at this; simpa using this
          simp only [e2, ho', Option.map_some, Option.some.injEq] at e
          unfold OpR.clr
          rw [ht]
          simpa using e.symm
        rw [show (o'.setT c v).may c = true by unfold OpR.may; rw [ht]; rfl, if_pos rfl, g2, hk, IH o' ho']
        simp only [Option.map_some]
        rw [show (o'.setT c v).wd c = x by unfold OpR.wd; rw [ht, g1]; simpa using m2]
theorem only_clr (k : Int) (c : UInt8) (hc : isL c = true) : (OpR.only k).clr c = OpR.only k := by
  rcases isL_cases hc with rfl | rfl | rfl | rfl | rfl | rfl | rfl <;> rfl
/-- What is parsed is printed as it stood. -/
theorem prt_prw {o : OpR} {s : List UInt8} (h : prw (wordsL s) = some o) : prt o = some s := by
  obtain ⟨h1, h2⟩ := jn_words s.length s (Nat.le_refl _)
  obtain ⟨x, xs, he⟩ := List.exists_cons_of_ne_nil h1
  rw [he] at h h2
  simp only [prw] at h
  split at h
  · cases h
  · rename_i hk
    have hk0 : kdOf x ≠ 0 := fun e => hk (.inl e)
    have hkl : xs.length = (flL (kdOf x)).length := by
      rcases Nat.decEq xs.length (flL (kdOf x)).length with g | g
      · exact absurd (.inr g) hk
      · exact g
    obtain ⟨n1, n2, n3⟩ := nm_kd x hk0
    have hkd := ps_kd _ _ _ _ h
    have hp := pr_ps _ _ _ _ (fl_nodup' _ n3) (fl_isL _ n3).2 (fun c hc => only_clr _ c ((fl_isL _ n3).2 c hc)) hkl h
    have hkd2 : o.kd = ((kdOf x : Nat) : Int) := hkd
    unfold prt
    rw [if_pos (by omega), show o.kd.toNat = kdOf x by omega, hp]
    simp only
    rw [if_pos (by rw [hkd2]), n1, h2]
/-- A line is an operation's just where the operation prints it. -/
theorem prw_iff (o : OpR) (s : List UInt8) : prw (wordsL s) = some o ↔ prt o = some s := ⟨prt_prw, prw_prt⟩
end Go.Proofs.YtndfgpelioipcaaDoor
