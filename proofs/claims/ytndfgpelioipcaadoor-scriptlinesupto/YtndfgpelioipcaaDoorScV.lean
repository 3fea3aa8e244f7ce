/- script: what the document reads of a line is what its operation prints: pure. -/
import Derived.Test.YtndfgpelioipcaaDoorScU
import Derived.Test.YtndfgpelioipcaaDoorScT
namespace Go.Proofs.YtndfgpelioipcaaDoor
open Go.RowKit
set_option linter.unusedVariables false
set_option linter.unusedSimpArgs false
/-- A field that is let be what a word says, by the document. -/
def OpR.takD (o : OpR) (c : UInt8) (x : List UInt8) : Option OpR := if isT c then (unq x).map (o.setT c) else if (rdN x).2 = true then some (o.setN c (rdN x).1) else none
theorem tak_takD {o o2 : OpR} {c : UInt8} {x : List UInt8} (h : o.tak c x = some o2) : o.takD c x = some o2 := by
  unfold OpR.tak at h
  unfold OpR.takD
  split at h
  · rename_i hc; rw [if_pos hc]; exact h
  · rename_i hc
    rw [if_neg hc]
    cases hv : nw x with
    | none => rw [hv] at h; cases h
    | some v =>
      rw [hv] at h
      obtain ⟨m1, m2⟩ := num_some hv
      have := rdN_itoa v m1
      rw [m2] at this
      rw [this, if_pos rfl]
      exact h
def psD (o : OpR) : List UInt8 → List (List UInt8) → Option OpR
  | [], _ => some o
  | _ :: _, [] => none
  | c :: r, x :: xs => match o.takD c x with | some o2 => psD o2 r xs | none => none
theorem ps_psD : ∀ (L : List UInt8) (xs : List (List UInt8)) (o o2 : OpR), ps o L xs = some o2 → psD o L xs = some o2
  | [], _, _, _, h => h
  | _ :: _, [], _, _, h => by simp [ps] at h
  | c :: r, x :: xs, o, o2, h => by
    simp only [ps] at h
    cases ht : o.tak c x with
    | none => rw [ht] at h; cases h
    | some o1 =>
      rw [ht] at h
      simp only [psD, tak_takD ht]
      exact ps_psD r xs o1 o2 h
def prwD : List (List UInt8) → Option OpR
  | [] => none
  | x :: xs => if kdOf x = 0 ∨ xs.length ≠ (flL (kdOf x)).length then none else psD (OpR.only (kdOf x)) (flL (kdOf x)) xs
/-- The operation of a line, by the document. -/
def piD (P : List UInt8) : Option OpR := match prwD (splitL P) with | none => none | some o => if prt o = some P then some o else none
theorem wd_cld (o : OpR) (c : UInt8) : ClD (o.wd c) := by
  unfold OpR.wd
  split
  · exact cld_quote _
  · exact cld_itoa _
theorem pr_cld : ∀ (L : List UInt8) (o o2 : OpR) (ws : List (List UInt8)), pr o L = some (o2, ws) → ∀ y ∈ ws, ClD y
  | [], o, o2, ws, h => by
    simp only [pr, Option.some.injEq, Prod.mk.injEq] at h
    obtain ⟨_, rfl⟩ := h
    simp
  | c :: r, o, o2, ws, h => by
    unfold pr at h
    split at h
    · cases hp : pr (o.clr c) r with
      | none => rw [hp] at h; cases h
      | some q =>
        rw [hp] at h
        simp only [Option.map_some, Option.some.injEq, Prod.mk.injEq] at h
        obtain ⟨_, rfl⟩ := h
        have ih := pr_cld r (o.clr c) q.1 q.2 (by rw [hp])
        intro y hy
        rcases List.mem_cons.1 hy with rfl | hy
        · exact wd_cld _ _
        · exact ih y hy
    · cases h
/-- The words of a line that an operation prints: the document parts it as the program does. -/
theorem split_words {o : OpR} {P : List UInt8} (h : prw (wordsL P) = some o) : splitL P = wordsL P := by
  obtain ⟨h1, h2⟩ := jn_words P.length P (Nat.le_refl _)
  obtain ⟨x, xs, he⟩ := List.exists_cons_of_ne_nil h1
  rw [he] at h h2 ⊢
  rw [← h2]
  apply split_jn
  simp only [prw] at h
  split at h
  · cases h
  · rename_i hk
    have hk0 : kdOf x ≠ 0 := fun e => hk (.inl e)
    have hkl : xs.length = (flL (kdOf x)).length := by
      rcases Nat.decEq xs.length (flL (kdOf x)).length with g | g
      · exact absurd (.inr g) hk
      · exact g
    obtain ⟨n1, n2, n3⟩ := nm_kd x hk0
    have hp := pr_ps _ _ _ _ (fl_nodup' _ n3) (fl_isL _ n3).2 (fun c hc => only_clr _ c ((fl_isL _ n3).2 c hc)) hkl h
    intro y hy
    rcases List.mem_cons.1 hy with rfl | hy
    · rw [← n1]; exact cld_nm _ n3
    · exact pr_cld _ _ _ _ hp y hy
theorem prw_prwD {L : List (List UInt8)} {o : OpR} (h : prw L = some o) : prwD L = some o := by
  cases L with
  | nil => simp [prw] at h
  | cons x xs =>
    simp only [prw] at h
    split at h
    · cases h
    · rename_i hk
      simp only [prwD]
      rw [if_neg hk]
      exact ps_psD _ _ _ _ h
theorem piD_eq (P : List UInt8) : piD P = prw (wordsL P) := by
  cases h : prw (wordsL P) with
  | some o =>
    have h1 := split_words h
    have h2 := prt_prw h
    unfold piD
    rw [h1, prw_prwD h]
    simp only
    rw [if_pos h2]
  | none =>
    unfold piD
    cases hp : prwD (splitL P) with
    | none => rfl
    | some o =>
      simp only
      split
      · rename_i e
        rw [prw_prt e] at h
        cases h
      · rfl
theorem decL_le (n : Nat) (s : List UInt8) : (decL n s).length ≤ s.length := by
  induction n generalizing s with
  | zero => simp [decL]
  | succ n ih =>
    unfold decL
    split
    · simp
    · cases s with
      | nil => simp at *
      | cons c r =>
        have h1 := dec1_size c r
        have h2 := ih ((c :: r).drop (dec1 (c :: r)).2)
        rw [List.length_drop] at h2
        simp only [List.length_cons] at *
        omega
theorem unq_len {s l : List UInt8} (h : unq s = some l) : l.length ≤ s.length := by
  have := unq_some h
  have h2 := quoteL_len l
  have h3 := (qb_len l).1
  rw [this] at h2
  omega
/-- No word of a line is longer than it. -/
theorem spD_len : ∀ (n : Nat) (cur : List UInt8) (q : Bool) (R : List UInt8), ∀ y ∈ spD n cur q R, y.length ≤ cur.length + R.length
  | 0, cur, q, R => fun y hy => by
    simp only [spD, List.mem_singleton] at hy
    rw [hy, List.length_append]; omega
  | n + 1, cur, q, [] => fun y hy => by
    simp only [spD, List.mem_singleton] at hy
    rw [hy]; omega
  | n + 1, cur, q, c :: R => fun y hy => by
    unfold spD at hy
    rw [List.length_cons]
    split at hy
    · rcases List.mem_cons.1 hy with rfl | hy
      · omega
      · have := spD_len n [] false R y hy
        simp only [List.length_nil] at this
        omega
    · split at hy
      · cases R with
        | nil =>
          simp only [List.mem_singleton] at hy
          rw [hy, List.length_append]; simp
        | cons d R2 =>
          have := spD_len n (cur ++ [c, d]) q R2 y hy
          rw [List.length_append] at this
          simp only [List.length_cons, List.length_nil] at *
          omega
      · split at hy
        · have := spD_len n (cur ++ [c]) (!q) R y hy
          rw [List.length_append] at this
          simp only [List.length_cons, List.length_nil] at *
          omega
        · have := spD_len n (cur ++ [c]) q R y hy
          rw [List.length_append] at this
          simp only [List.length_cons, List.length_nil] at *
          omega
theorem split_len (P : List UInt8) : ∀ y ∈ splitL P, y.length ≤ P.length := fun y hy => by
  have := spD_len _ [] false P y hy
  simpa using this
theorem spD_ne : ∀ (n : Nat) (cur : List UInt8) (q : Bool) (R : List UInt8), spD n cur q R ≠ [] ∧ (spD n cur q R).length ≤ R.length + 1
  | 0, cur, q, R => by simp [spD]
  | n + 1, cur, q, [] => by simp [spD]
  | n + 1, cur, q, c :: R => by
    unfold spD
    rw [List.length_cons]
    split
    · have := spD_ne n [] false R
      simp only [List.length_cons]
      exact ⟨by simp, by omega⟩
    · split
      · cases R with
        | nil => simp
        | cons d R2 =>
          have := spD_ne n (cur ++ [c, d]) q R2
          simp only [List.length_cons] at *
          exact ⟨this.1, by omega⟩
      · split
        · have := spD_ne n (cur ++ [c]) (!q) R
          exact ⟨this.1, by omega⟩
        · have := spD_ne n (cur ++ [c]) q R
          exact ⟨this.1, by omega⟩
theorem split_ne (P : List UInt8) : ∃ x xs, splitL P = x :: xs ∧ xs.length ≤ P.length := by
  have := spD_ne (P.length + 1) [] false P
  obtain ⟨x, xs, he⟩ := List.exists_cons_of_ne_nil this.1
  refine ⟨x, xs, he, ?_⟩
  have h2 := this.2
  rw [he, List.length_cons] at h2
  omega
/-- Its numbers are numbers, its texts are short. -/
structure OpR.Fit (o : OpR) (N : Nat) : Prop where
  kd : I64 o.kd
  ha : I64 o.ha
  of : I64 o.of
  nn : I64 o.nn
  fl : I64 o.fl
  pa : o.pa.length ≤ N
  ot : o.ot.length ≤ N
  da : o.da.length ≤ N
theorem OpR.Fit.ok {o : OpR} {N M : Nat} (h : o.Fit N) (hm : 3 * N ≤ M) : o.Ok M := ⟨h.kd, h.ha, h.of, h.nn, h.fl, by have := h.pa; have := h.ot; have := h.da; omega⟩
theorem OpR.Fit.only (k : Nat) (N : Nat) (hk : k ≤ 19) : (OpR.only (k : Int)).Fit N := by
  refine ⟨?_, ?_, ?_, ?_, ?_, Nat.zero_le _, Nat.zero_le _, Nat.zero_le _⟩ <;> (unfold I64 OpR.only; simp only; omega)
theorem rdN_i64 (P : List UInt8) : I64 (rdN P).1 := by
  have := rdN_lt P
  unfold I64
  omega
theorem OpR.Fit.setT {o : OpR} {N : Nat} (h : o.Fit N) (c : UInt8) {t : List UInt8} (ht : t.length ≤ N) : (o.setT c t).Fit N := by
  unfold OpR.setT
  split
  · exact ⟨h.kd, h.ha, h.of, h.nn, h.fl, ht, h.ot, h.da⟩
  · split
    · exact ⟨h.kd, h.ha, h.of, h.nn, h.fl, h.pa, ht, h.da⟩
    · exact ⟨h.kd, h.ha, h.of, h.nn, h.fl, h.pa, h.ot, ht⟩
theorem OpR.Fit.setN {o : OpR} {N : Nat} (h : o.Fit N) (c : UInt8) {z : Int} (hz : I64 z) : (o.setN c z).Fit N := by
  unfold OpR.setN
  split
  · exact ⟨h.kd, hz, h.of, h.nn, h.fl, h.pa, h.ot, h.da⟩
  · split
    · exact ⟨h.kd, h.ha, hz, h.nn, h.fl, h.pa, h.ot, h.da⟩
    · split
      · exact ⟨h.kd, h.ha, h.of, hz, h.fl, h.pa, h.ot, h.da⟩
      · exact ⟨h.kd, h.ha, h.of, h.nn, hz, h.pa, h.ot, h.da⟩
/-- How far the document's reading is. -/
structure RI (o : OpR) (L : List UInt8) (xs : List (List UInt8)) (k : Nat) (ok : OpR) (N : Nat) : Prop where
  eq : psD o L xs = psD ok (L.drop k) (xs.drop k)
  fit : ok.Fit N
theorem RI.zero (o : OpR) (L : List UInt8) (xs : List (List UInt8)) (N : Nat) (h : o.Fit N) : RI o L xs 0 o N := ⟨by rw [List.drop_zero, List.drop_zero], h⟩
theorem RI.cons {o ok : OpR} {L : List UInt8} {xs : List (List UInt8)} {k N : Nat} {c : UInt8} {x : List UInt8} (h : RI o L xs k ok N) (hc : L[k]? = some c) (hx : xs[k]? = some x) : psD o L xs = match ok.takD c x with | some o2 => psD o2 (L.drop (k + 1)) (xs.drop (k + 1)) | none => none := by
  have h1 := (List.getElem?_eq_some_iff.1 hc).1
  have h2 := (List.getElem?_eq_some_iff.1 hx).1
  rw [h.eq, List.drop_eq_getElem_cons h1, List.drop_eq_getElem_cons h2, (List.getElem?_eq_some_iff.1 hc).2, (List.getElem?_eq_some_iff.1 hx).2]
  rfl
theorem RI.num {o ok : OpR} {L : List UInt8} {xs : List (List UInt8)} {k N : Nat} {c : UInt8} {x : List UInt8} (h : RI o L xs k ok N) (hc : L[k]? = some c) (hx : xs[k]? = some x) (ht : isT c = false) (hr : (rdN x).2 = true) : RI o L xs (k + 1) (ok.setN c (rdN x).1) N := by
  refine ⟨?_, h.fit.setN c (rdN_i64 x)⟩
  rw [h.cons hc hx]
  unfold OpR.takD
  rw [ht, if_neg (by decide), if_pos hr]
theorem RI.txt {o ok : OpR} {L : List UInt8} {xs : List (List UInt8)} {k N : Nat} {c : UInt8} {x t : List UInt8} (h : RI o L xs k ok N) (hc : L[k]? = some c) (hx : xs[k]? = some x) (ht : isT c = true) (hr : unq x = some t) (hl : x.length ≤ N) : RI o L xs (k + 1) (ok.setT c t) N := by
  refine ⟨?_, h.fit.setT c (by have := unq_len hr; omega)⟩
  rw [h.cons hc hx]
  unfold OpR.takD
  rw [ht, if_pos rfl, hr]
  rfl
theorem RI.noN {o ok : OpR} {L : List UInt8} {xs : List (List UInt8)} {k N : Nat} {c : UInt8} {x : List UInt8} (h : RI o L xs k ok N) (hc : L[k]? = some c) (hx : xs[k]? = some x) (ht : isT c = false) (hr : (rdN x).2 = false) : psD o L xs = none := by
  rw [h.cons hc hx]
  unfold OpR.takD
  rw [ht, if_neg (by decide), if_neg (by rw [hr]; decide)]
theorem RI.noT {o ok : OpR} {L : List UInt8} {xs : List (List UInt8)} {k N : Nat} {c : UInt8} {x : List UInt8} (h : RI o L xs k ok N) (hc : L[k]? = some c) (hx : xs[k]? = some x) (ht : isT c = true) (hr : unq x = none) : psD o L xs = none := by
  rw [h.cons hc hx]
  unfold OpR.takD
  rw [ht, if_pos rfl, hr]
  rfl
theorem RI.done {o ok : OpR} {L : List UInt8} {xs : List (List UInt8)} {k N : Nat} (h : RI o L xs k ok N) (hk : L.length ≤ k) : psD o L xs = some ok := by
  rw [h.eq, List.drop_of_length_le hk]
  simp [psD]
end Go.Proofs.YtndfgpelioipcaaDoor
