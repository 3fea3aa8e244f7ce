/- One sector more is taken: how much is left. -/
import Derived.Test.YtbmbdidmbdanmaaDoorSpL2
namespace Go.Proofs.YtbmbdidmbdanmaaDoor
open Go.RowKit Go.Shelf
set_option linter.unusedVariables false
set_option linter.unusedSimpArgs false
theorem cnt_or (u v : Nat → Bool) : ∀ n, cnt (fun i => u i || v i) n ≤ cnt u n + cnt v n
  | 0 => by simp [cnt]
  | n + 1 => by
    have := cnt_or u v n
    simp only [cnt]
    cases u n <;> cases v n <;> simp <;> omega
theorem cnt_lack (t : Nat → Bool) : ∀ n, cnt t n < n → ∃ i, i < n ∧ t i = false
  | 0, h => by omega
  | n + 1, h => by
    cases e : t n with
    | false => exact ⟨n, by omega, e⟩
    | true =>
      simp only [cnt, e] at h
      have h' : cnt t n < n := by simp at h; omega
      obtain ⟨i, hi, hf⟩ := cnt_lack t n h'
      exact ⟨i, by omega, hf⟩
theorem rp_some (t : Nat → Bool) : ∀ n i, i < n → t i = false → rp t n ≠ []
  | 0, i, h, _ => by omega
  | n + 1, i, h, hf => by
    rw [rp_succ]
    cases e : t n with
    | true =>
      have hin : i ≠ n := fun e' => by rw [e', e] at hf; cases hf
      simp only [if_true]
      exact rp_some t n i (by omega) hf
    | false =>
      simp only [Bool.false_eq_true, if_false]
      split
      · split <;> simp
      · simp
theorem fit_one {t : Nat → Bool} {n : Nat} (h : ∃ i, i < n ∧ t i = false) : ∃ a m, fitR (rp t n) 1 = some (a, m) := by
  obtain ⟨i, hi, hf⟩ := h
  cases e : rp t n with
  | nil => exact absurd e (rp_some t n i hi hf)
  | cons x l =>
    have h1 := (rp_ends t n x (by rw [e]; simp)).2
    refine ⟨x.1, x.2, ?_⟩
    unfold fitR
    rw [List.find?_cons_of_pos (by simp; omega)]
theorem cnt_set1 (u : Nat → Bool) (p : Nat) (hp : u p = false) : ∀ n, cnt (fSet u p (p + 1)) n = cnt u n + (if p < n then 1 else 0)
  | 0 => by simp [cnt]
  | n + 1 => by
    simp only [cnt]
    rw [cnt_set1 u p hp n]
    by_cases e : n = p
    · subst e
      have : fSet u n (n + 1) n = true := by simp [fSet]
      rw [this, hp]
      simp
    · have : fSet u p (p + 1) n = u n := by
        unfold fSet
        by_cases h1 : p ≤ n
        · have : ¬ n < p + 1 := by omega
          simp [this]
        · simp [h1]
      rw [this]
      by_cases h1 : p < n
      · rw [if_pos h1, if_pos (by omega)]; omega
      · rw [if_neg h1, if_neg (by omega)]; omega
theorem left_set1 {count : Nat} {u v : Nat → Bool} {res p : Nat} (hp : u p = false) (h : p < 4096) : leftZ count (fSet u p (p + 1)) v res + 1 = leftZ count u v res := by
  unfold leftZ
  rw [cnt_set1 u p hp, if_pos h]
  omega
/-- What Take of one tells where something is left. -/
structure T1 (w : World) (g first count : Nat) (u v : Nat → Bool) (res : Nat) (e : Ending) (w' : World) : Prop where
  ex : ∃ (u' : Nat → Bool) (k : Int), e = .returned (.tuple #[.int .i64 k, .int .i64 0]) ∧ SpAt g first count u' v res w' ∧ leftZ count u' v res + 1 = leftZ count u v res ∧ Kept (fun b => b = g) w w'
theorem sp_take1 (g first count : Nat) (u v : Nat → Bool) (res : Nat) (w : World) (h : SpAt g first count u v res w) (hT : Tab w) (hl : 1 ≤ leftZ count u v res) :
    Calls Tryd.prog 15 #[.pointer (some ⟨g, 0, none⟩), .int .i64 1] w fun e w' => T1 w g first count u v res e w' := by
  have hf := h.fits
  have hlack : cnt (fun i => u i || v i) count < count := by
    have h1 := cnt_or u v count
    have h2 := cnt_top (u := u) (by omega) h.inU
    have h3 := cnt_top (u := v) (by omega) h.inV
    unfold leftZ at hl
    rw [h2, h3] at hl
    omega
  obtain ⟨a, m, hfit⟩ := fit_one (cnt_lack _ _ hlack)
  have hm := List.mem_of_find?_eq_some hfit
  have he : a + m ≤ count := (rp_ends _ _ _ hm).1
  have h1 : 1 ≤ m := (rp_ends _ _ _ hm).2
  have hfree := rp_free _ _ _ hm a (Nat.le_refl _) (by show a < a + m; omega)
  have hua : u a = false := by simp at hfree; exact hfree.1
  refine (sp_takeRun g first count u v res 1 w h hT (by omega) (by omega)).mono fun e w' p => ?_
  obtain ⟨e1, e2, e3⟩ := p.yes a m hfit
  exact ⟨fSet u a (a + 1), _, e1, e2, left_set1 hua (by omega), e3⟩
theorem sp_uniq {g first count first' count' : Nat} {u v u' v' : Nat → Bool} {res res' : Nat} {w : World} (h : SpAt g first count u v res w) (h' : SpAt g first' count' u' v' res' w) : cnt u 4096 = cnt u' 4096 := by
  obtain ⟨cs, hb, _, _, _, hu, _⟩ := h.box
  obtain ⟨cs', hb', _, _, _, hu', _⟩ := h'.box
  rw [hb] at hb'
  obtain rfl : cs = cs' := by injection hb' with e; injection e
  refine cnt_ext 4096 fun j hj => ?_
  obtain ⟨n, a1, _, c1⟩ := hu.word (j / 64) (by omega)
  obtain ⟨n', a2, _, c2⟩ := hu'.word (j / 64) (by omega)
  rw [a1] at a2
  have e : n = n' := by
    have := Option.some.inj a2
    injection this with _ e
    omega
  subst e
  have d1 := c1 (j % 64) (by omega)
  have d2 := c2 (j % 64) (by omega)
  rw [show 64 * (j / 64) + j % 64 = j by omega] at d1 d2
  rw [← d1, ← d2]
theorem left_meas (g first count : Nat) (v : Nat → Bool) (res : Nat) : ∃ M : World → Nat, ∀ u w, SpAt g first count u v res w → M w = (leftZ count u v res).toNat := by
  have key : ∀ w, ∃ m : Nat, ∀ u, SpAt g first count u v res w → m = (leftZ count u v res).toNat := fun w => by
    by_cases h : ∃ u, SpAt g first count u v res w
    · obtain ⟨u, hu⟩ := h
      refine ⟨(leftZ count u v res).toNat, fun u' hu' => ?_⟩
      unfold leftZ
      rw [sp_uniq hu hu']
    · exact ⟨0, fun u hu => absurd ⟨u, hu⟩ h⟩
  exact ⟨fun w => (key w).choose, fun u w h => (key w).choose_spec u h⟩
/-- The program's Space alone. -/
structure RS (w : World) (g first count : Nat) (u v : Nat → Bool) (res : Nat) (W : World) : Prop where
  sp : SpAt g first count u v res W
  tab : Tab W
  same : Same w W
theorem RS.keep {w : World} {g first count : Nat} {u v : Nat → Bool} {res : Nat} {W W' : World} (h : RS w g first count u v res W) (k : Same W W') : RS w g first count u v res W' := ⟨h.sp.kept k (fun h => h), h.tab.same k, h.same.trans k⟩
theorem RS.next {w : World} {g first count : Nat} {u v u' v' : Nat → Bool} {res res' : Nat} {W W' : World} (h : RS w g first count u v res W) (lg : w.heap.size ≤ g) (lT : 0 < w.heap.size) (s : SpAt g first count u' v' res' W') (k : Kept (fun b => b = g) W W') : RS w g first count u' v' res' W' :=
  ⟨s, h.tab.kept k (by omega), Kept.trans' h.same k (fun i hi e => by omega)⟩
end Go.Proofs.YtbmbdidmbdanmaaDoor
