/- Merging, pure: what is told of each key. -/
import Derived.Test.YtelngbkbdihdnaaSWo
import Derived.Test.YtelngbkbdihdnaaHd4
namespace Go.Proofs.Ytelngbkbdihdnaa
set_option linter.unusedVariables false
/-- What the first of some lists that has a key tells of it. -/
def sel (S : List (List Kv)) (k : ByteArray) : Option Int := S.findSome? (lk k)
theorem lk_head (a : ByteArray) (z : Int) (t : List Kv) : lk a ((a, z) :: t) = some z := by
  unfold lk
  rw [List.find?_cons_of_pos (by exact eqK_self a)]
  rfl
theorem lk_tail {a k : ByteArray} {z : Int} {t : List Kv} (h : eqK a k = false) : lk k ((a, z) :: t) = lk k t := by
  unfold lk
  rw [List.find?_cons_of_neg (by rw [h]; simp)]
theorem lk_nil (k : ByteArray) : lk k [] = none := rfl
theorem lk_no {k : ByteArray} {l : List Kv} (h : ∀ a ∈ l, eqK a.1 k = false) : lk k l = none := by unfold lk; rw [lk_none h]; rfl
theorem lk_snoc_no {a k : ByteArray} {z : Int} {out : List Kv} (h : eqK a k = false) : lk k (out ++ [(a, z)]) = lk k out := by
  unfold lk
  rw [List.find?_append, List.find?_cons_of_neg (by rw [h]; simp)]
  simp
theorem eqK_eq {a b : ByteArray} (h : eqK a b = true) : a = b := by
  unfold eqK at h
  simp only [Bool.and_eq_true, Bool.not_eq_true'] at h
  exact bytes_ext (ltS_eq h.1 h.2)
theorem lk_some_mem {k : ByteArray} {l : List Kv} {z : Int} (h : lk k l = some z) : (k, z) ∈ l := by
  unfold lk at h
  cases hf : l.find? (fun a => eqK a.1 k) with
  | none => rw [hf] at h; cases h
  | some p =>
    rw [hf] at h
    obtain ⟨a, y⟩ := p
    have h1 := List.find?_some hf
    have e : a = k := eqK_eq h1
    subst e
    cases h
    exact List.mem_of_find?_eq_some hf
theorem lk_none_mem {k : ByteArray} {l : List Kv} (h : lk k l = none) : ∀ a ∈ l, eqK a.1 k = false := fun a ha => by
  cases he : eqK a.1 k
  · rfl
  · unfold lk at h
    rw [Option.map_eq_none_iff, List.find?_eq_none] at h
    exact absurd he (by simpa using h a ha)
theorem srt_ext : ∀ {a b : List Kv}, Srt a → Srt b → (∀ k, lk k a = lk k b) → a = b
  | [], [], _, _, _ => rfl
  | [], (k, z) :: t, _, _, h => by have := h k; rw [lk_head] at this; cases this
  | (k, z) :: t, [], _, _, h => by have := h k; rw [lk_head] at this; cases this
  | (k, z) :: s, (j, y) :: t, ha, hb, h => by
    have ha' := List.pairwise_cons.1 ha
    have hb' := List.pairwise_cons.1 hb
    have e : k = j := by
      cases h1 : ltS k j
      · cases h2 : ltS j k
        · exact bytes_ext (ltS_eq h1 h2)
        · exfalso
          have h3 := h j
          rw [lk_head, lk_no (l := (k, z) :: s) (fun a m => by
            rcases List.mem_cons.1 m with rfl | m
            · exact eqK_gt h2
            · exact eqK_gt (ordS.lt_lt h2 (ha'.1 a m)))] at h3
          cases h3
      · exfalso
        have h3 := h k
        rw [lk_head, lk_no (l := (j, y) :: t) (fun a m => by
          rcases List.mem_cons.1 m with rfl | m
          · exact eqK_gt h1
          · exact eqK_gt (ordS.lt_lt h1 (hb'.1 a m)))] at h3
        cases h3
    subst e
    have hz := h k
    rw [lk_head, lk_head] at hz
    cases hz
    rw [srt_ext ha'.2 hb'.2 (fun i => by
      cases he : eqK k i
      · have := h i
        rw [lk_tail he, lk_tail he] at this
        exact this
      · obtain rfl := eqK_eq he
        rw [lk_no (fun a m => eqK_gt (ha'.1 a m)), lk_no (fun a m => eqK_gt (hb'.1 a m))])]
theorem sel_set {S : List (List Kv)} {p : Nat} {t : List Kv} {k : ByteArray} (hp : p < S.length) (h : lk k t = lk k S[p]) : sel (S.set p t) k = sel S k := by
  have e : ∀ l : List (List Kv), sel l k = (l.map (lk k)).findSome? id := fun l => by rw [List.findSome?_map]; rfl
  rw [e, e, List.map_set, h]
  congr 1
  apply List.ext_getElem (by simp)
  intro i h1 h2
  rw [List.getElem_set]
  split
  · subst_vars; simp
  · rfl
theorem sel_first {k : ByteArray} {z : Int} : ∀ {S : List (List Kv)} {p : Nat} (hp : p < S.length), lk k S[p] = some z → (∀ q (hq : q < S.length), q < p → lk k S[q] = none) → sel S k = some z
  | [], p, hp, _, _ => by simp at hp
  | l :: S, 0, hp, h, _ => by unfold sel; rw [List.findSome?_cons_of_isSome (h := by rw [show lk k l = some z from h]; rfl)]; exact h
  | l :: S, p + 1, hp, h, hf => by
    have h0 : lk k l = none := hf 0 (by simp) (by omega)
    unfold sel
    rw [List.findSome?_cons_of_isNone (h := by rw [h0]; rfl)]
    exact sel_first (S := S) (p := p) (by simpa using hp) (by simpa using h) (fun q hq hqp => by have := hf (q + 1) (by simp; omega) (by omega); simpa using this)
theorem sel_empty {S : List (List Kv)} (h : ∀ l ∈ S, l = []) (k : ByteArray) : sel S k = none := by
  unfold sel
  rw [List.findSome?_eq_none_iff]
  intro l hl
  rw [h l hl]
  rfl
/-- How far a merging is. -/
structure MInv (S0 S : List (List Kv)) (out : List Kv) : Prop where
  len : S.length = S0.length
  srtS : ∀ l ∈ S, Srt l
  srt : Srt out
  ge : ∀ o ∈ out, ∀ l ∈ S, ∀ x ∈ l, ltS x.1 o.1 = false
  yes : ∀ k, lk k out ≠ none → lk k out = sel S0 k
  no : ∀ k, lk k out = none → sel S0 k = sel S k
theorem MInv.init {S0 : List (List Kv)} (h : ∀ l ∈ S0, Srt l) : MInv S0 S0 [] := ⟨rfl, h, List.Pairwise.nil, fun o ho => by simp at ho, fun k h => absurd rfl h, fun k _ => rfl⟩
theorem MInv.done {S0 S : List (List Kv)} {out : List Kv} (h : MInv S0 S out) (he : ∀ l ∈ S, l = []) (k : ByteArray) : lk k out = sel S0 k := by
  cases hk : lk k out with
  | none => rw [h.no k hk, sel_empty he]
  | some z => rw [← hk]; exact h.yes k (by rw [hk]; simp)
theorem set_mem {S : List (List Kv)} {p : Nat} {a : Kv} {t l : List Kv} (hp : p < S.length) (hS : S[p] = a :: t) (hl : l ∈ S.set p t) : ∃ l' ∈ S, l.Sublist l' := by
  rcases List.mem_or_eq_of_mem_set hl with h | rfl
  · exact ⟨l, h, List.Sublist.refl _⟩
  · exact ⟨S[p], List.getElem_mem hp, by rw [hS]; exact List.sublist_cons_self _ _⟩
theorem MInv.old {S0 S : List (List Kv)} {out : List Kv} (h : MInv S0 S out) {p : Nat} (hp : p < S.length) {a : ByteArray} {z : Int} {t : List Kv} (hS : S[p] = (a, z) :: t) (ho : lk a out ≠ none) : MInv S0 (S.set p t) out := by
  refine ⟨by rw [List.length_set]; exact h.len, fun l hl => ?_, h.srt, fun o m l hl x hx => ?_, h.yes, fun k hk => ?_⟩
  · obtain ⟨l', hl', hs⟩ := set_mem hp hS hl
    exact (h.srtS l' hl').sublist hs
  · obtain ⟨l', hl', hs⟩ := set_mem hp hS hl
    exact h.ge o m l' hl' x (hs.subset hx)
  · rw [h.no k hk, sel_set hp]
    rw [hS, lk_tail]
    cases he : eqK a k
    · rfl
    · obtain rfl := eqK_eq he
      exact absurd hk ho
theorem MInv.new {S0 S : List (List Kv)} {out : List Kv} (h : MInv S0 S out) {p : Nat} (hp : p < S.length) {a : ByteArray} {z : Int} {t : List Kv} (hS : S[p] = (a, z) :: t) (ho : ∀ o ∈ out, ltS o.1 a = true)
    (hmin : ∀ l ∈ S, ∀ x ∈ l, ltS x.1 a = false) (hf : ∀ q (hq : q < S.length), q < p → lk a S[q] = none) : MInv S0 (S.set p t) (out ++ [(a, z)]) := by
  have hno : lk a out = none := lk_no (fun o m => eqK_lt (ho o m))
  refine ⟨by rw [List.length_set]; exact h.len, fun l hl => ?_, ?_, fun o m l hl x hx => ?_, fun k hk => ?_, fun k hk => ?_⟩
  · obtain ⟨l', hl', hs⟩ := set_mem hp hS hl
    exact (h.srtS l' hl').sublist hs
  · unfold Srt
    rw [List.pairwise_append]
    exact ⟨h.srt, by simp, fun x hx y hy => by simp at hy; subst hy; exact ho x hx⟩
  · obtain ⟨l', hl', hs⟩ := set_mem hp hS hl
    rcases List.mem_append.1 m with m | m
    · exact h.ge o m l' hl' x (hs.subset hx)
    · simp at m
      subst m
      exact hmin l' hl' x (hs.subset hx)
  · cases he : eqK a k
    · rw [lk_snoc_no he] at hk ⊢
      exact h.yes k hk
    · obtain rfl := eqK_eq he
      have e1 : lk a (out ++ [(a, z)]) = some z := by
        unfold lk at hno ⊢
        rw [Option.map_eq_none_iff] at hno
        rw [List.find?_append, hno, Option.none_or, List.find?_cons_of_pos (by exact eqK_self a)]
        rfl
      rw [e1, h.no a hno, sel_first hp (by rw [hS]; exact lk_head _ _ _) hf]
  · cases he : eqK a k
    · rw [lk_snoc_no he] at hk
      rw [h.no k hk, sel_set hp]
      rw [hS, lk_tail he]
    · obtain rfl := eqK_eq he
      exact absurd (by exact eqK_self a) (by rw [lk_none_mem hk (a, z) (by simp)]; simp)
end Go.Proofs.Ytelngbkbdihdnaa
