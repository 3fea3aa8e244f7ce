/- For SpaceApart: the owners' row; Take, Free, Later told by cases ahead of the call. -/
import Derived.Test.YtbmbdidmbdanmaaDoorSpR1
namespace Go.Proofs.YtbmbdidmbdanmaaDoor
open Go.RowKit Go.Shelf
set_option linter.unusedVariables false
set_option linter.unusedSimpArgs false
/-- The owners as cells. -/
def ow (o : Nat → Int) : Array Value := ((List.range 4096).map fun k => Value.int .i64 (o k)).toArray
theorem ow_at (o : Nat → Int) {k : Nat} (h : k < 4096) : (ow o)[k]? = some (.int .i64 (o k)) := by
  unfold ow
  simp [h]
theorem ow_set (o : Nat → Int) (k : Nat) (x : Int) : (ow o).setIfInBounds k (.int .i64 x) = ow (fun j => if j = k then x else o j) := by
  unfold ow
  apply Array.ext'
  simp only [Array.toList_setIfInBounds]
  apply List.ext_getElem
  · simp
  · intro i h1 h2
    simp only [List.getElem_set, List.getElem_map, List.getElem_range]
    by_cases e : k = i
    · simp [e]
    · have e' : ¬ i = k := fun h => e h.symm
      simp [e, e']
theorem ow_ext {o p : Nat → Int} (h : ∀ k, k < 4096 → o k = p k) : ow o = ow p := by
  unfold ow
  have e : ((List.range 4096).map fun k => Value.int .i64 (o k)) = (List.range 4096).map fun k => Value.int .i64 (p k) := List.map_congr_left fun k hk => by rw [h k (List.mem_range.1 hk)]
  rw [e]
/-- From lo to hi - 1 another owner. -/
def pt (o : Nat → Int) (lo hi : Nat) (x : Int) : Nat → Int := fun k => if lo ≤ k ∧ k < hi then x else o k
theorem pt_none (o : Nat → Int) (lo : Nat) (x : Int) : pt o lo lo x = o := by
  funext k
  unfold pt
  rw [if_neg (by omega)]
theorem pt_more (o : Nat → Int) (lo j : Nat) (x : Int) : (fun k => if k = lo + j then x else pt o lo (lo + j) x k) = pt o lo (lo + (j + 1)) x := by
  funext k
  unfold pt
  by_cases e : k = lo + j
  · simp [e]
  · simp only [e, if_false]
    by_cases h : lo ≤ k ∧ k < lo + j
    · rw [if_pos h, if_pos (by omega)]
    · rw [if_neg h, if_neg (by omega)]
/-- The owners tell what is used, and what waits. -/
structure Owns (first count : Nat) (u v : Nat → Bool) (o : Nat → Int) : Prop where
  pos : ∀ k, k < 4096 → (1 ≤ o k ↔ first ≤ k ∧ k < first + count ∧ u (k - first) = true)
  neg : ∀ k, k < 4096 → (o k < 0 ↔ first ≤ k ∧ k < first + count ∧ v (k - first) = true)
theorem Owns.start (first count : Nat) : Owns first count (fun _ => false) (fun _ => false) (fun _ => 0) := ⟨fun k _ => by simp, fun k _ => by simp⟩
theorem Owns.take {first count : Nat} {u v : Nat → Bool} {o : Nat → Int} (h : Owns first count u v o) {p m : Nat} (hp : p + m ≤ count) (hn : allNo (fun i => u i || v i) p m) {x : Int} (hx : 1 ≤ x) :
    Owns first count (fSet u p (p + m)) v (pt o (first + p) (first + p + m) x) := by
  refine ⟨fun k hk => ?_, fun k hk => ?_⟩
  · have := h.pos k hk
    unfold pt fSet
    by_cases e : first + p ≤ k ∧ k < first + p + m
    · rw [if_pos e]
      have e1 : p ≤ k - first := by omega
      have e2 : k - first < p + m := by omega
      simp [e1, e2, hx]
      omega
    · rw [if_neg e, this]
      constructor
      · rintro ⟨a, b, c⟩
        exact ⟨a, b, by simp [c]⟩
      · rintro ⟨a, b, c⟩
        refine ⟨a, b, ?_⟩
        have : ¬ (p ≤ k - first ∧ k - first < p + m) := by omega
        simpa [this] using c
  · have := h.neg k hk
    unfold pt
    by_cases e : first + p ≤ k ∧ k < first + p + m
    · rw [if_pos e]
      have := hn (k - first) (by omega) (by omega)
      simp at this
      constructor
      · intro; omega
      · rintro ⟨_, _, c⟩
        rw [this.2] at c
        cases c
    · rw [if_neg e, this]
theorem Owns.free {first count : Nat} {u v : Nat → Bool} {o : Nat → Int} (h : Owns first count u v o) {p m : Nat} (hp : p + m ≤ count) (hn : allNo (fun i => !u i) p m) :
    Owns first count (fUnset u p (p + m)) v (pt o (first + p) (first + p + m) 0) := by
  refine ⟨fun k hk => ?_, fun k hk => ?_⟩
  · have := h.pos k hk
    unfold pt fUnset
    by_cases e : first + p ≤ k ∧ k < first + p + m
    · rw [if_pos e]
      have e1 : p ≤ k - first := by omega
      have e2 : k - first < p + m := by omega
      simp [e1, e2]
    · rw [if_neg e, this]
      have e3 : ¬ (first ≤ k ∧ p ≤ k - first ∧ k - first < p + m) := by omega
      constructor
      · rintro ⟨a, b, c⟩
        refine ⟨a, b, ?_⟩
        have : ¬ (p ≤ k - first ∧ k - first < p + m) := by omega
        simp [c]
        omega
      · rintro ⟨a, b, c⟩
        refine ⟨a, b, ?_⟩
        simp at c
        exact c.1
  · have h1 := h.neg k hk
    have h2 := h.pos k hk
    unfold pt
    by_cases e : first + p ≤ k ∧ k < first + p + m
    · rw [if_pos e]
      have := hn (k - first) (by omega) (by omega)
      simp at this
      constructor
      · intro; omega
      · rintro ⟨a, b, c⟩
        have := h1.2 ⟨a, b, c⟩
        have := h2.2 ⟨a, b, by assumption⟩
        omega
    · rw [if_neg e, h1]
theorem Owns.later {first count : Nat} {u v : Nat → Bool} {o : Nat → Int} (h : Owns first count u v o) {p m : Nat} (hp : p + m ≤ count) (hn : allNo (fun i => !u i) p m) :
    Owns first count (fUnset u p (p + m)) (fSet v p (p + m)) (pt o (first + p) (first + p + m) (-1)) := by
  refine ⟨fun k hk => ?_, fun k hk => ?_⟩
  · have := h.pos k hk
    unfold pt fUnset
    by_cases e : first + p ≤ k ∧ k < first + p + m
    · rw [if_pos e]
      have e1 : p ≤ k - first := by omega
      have e2 : k - first < p + m := by omega
      simp [e1, e2]
    · rw [if_neg e, this]
      constructor
      · rintro ⟨a, b, c⟩
        refine ⟨a, b, ?_⟩
        simp [c]
        omega
      · rintro ⟨a, b, c⟩
        refine ⟨a, b, ?_⟩
        simp at c
        exact c.1
  · have h1 := h.neg k hk
    unfold pt fSet
    by_cases e : first + p ≤ k ∧ k < first + p + m
    · rw [if_pos e]
      have e1 : p ≤ k - first := by omega
      have e2 : k - first < p + m := by omega
      simp [e1, e2]
      omega
    · rw [if_neg e, h1]
      constructor
      · rintro ⟨a, b, c⟩
        exact ⟨a, b, by simp [c]⟩
      · rintro ⟨a, b, c⟩
        refine ⟨a, b, ?_⟩
        have : ¬ (p ≤ k - first ∧ k - first < p + m) := by omega
        simpa [this] using c
/-- What waited is nobody's. -/
def stl (o : Nat → Int) (j : Nat) : Nat → Int := fun k => if k < j ∧ o k < 0 then 0 else o k
theorem stl_none (o : Nat → Int) : stl o 0 = o := by
  funext k
  unfold stl
  rw [if_neg (by omega)]
theorem stl_yes {o : Nat → Int} {j : Nat} (h : o j < 0) : (fun k => if k = j then 0 else stl o j k) = stl o (j + 1) := by
  funext k
  unfold stl
  by_cases e : k = j
  · subst e
    rw [if_pos rfl, if_pos ⟨by omega, h⟩]
  · simp only [e, if_false]
    by_cases h : k < j ∧ o k < 0
    · rw [if_pos h, if_pos (by omega)]
    · rw [if_neg h, if_neg (by omega)]
theorem stl_no {o : Nat → Int} {j : Nat} (h : ¬ o j < 0) : stl o j = stl o (j + 1) := by
  funext k
  unfold stl
  by_cases h1 : k < j ∧ o k < 0
  · rw [if_pos h1, if_pos (by omega)]
  · rw [if_neg h1, if_neg (fun h2 => h1 ⟨by
      have : k ≠ j := fun e => h (e ▸ h2.2)
      omega, h2.2⟩)]
theorem stl_at {o : Nat → Int} {j : Nat} : stl o j j = o j := by
  unfold stl
  rw [if_neg (by omega)]
theorem Owns.settle {first count : Nat} {u v : Nat → Bool} {o : Nat → Int} (h : Owns first count u v o) : Owns first count u (fun _ => false) (stl o 4096) := by
  refine ⟨fun k hk => ?_, fun k hk => ?_⟩
  · rw [← h.pos k hk]
    unfold stl
    split <;> omega
  · unfold stl
    by_cases e : o k < 0
    · rw [if_pos ⟨hk, e⟩]; simp
    · rw [if_neg (by omega)]; simp; omega
theorem Owns.count {first count : Nat} {u v : Nat → Bool} {o : Nat → Int} (h : Owns first count u v o) (hf : first + count ≤ 4096) (hv : ∀ i, count ≤ i → i < 4096 → v i = false) : cnt (fun k => decide (o k < 0)) 4096 = cnt v 4096 := by
  have e1 : cnt (fun k => decide (o k < 0)) (first + (4096 - first)) = cnt (fun j => decide (o (first + j) < 0)) (4096 - first) := by
    rw [cnt_add, cnt_none _ first (fun j hj => by have := h.neg j (by omega); simp; omega), Nat.zero_add]
  have e2 : cnt (fun j => decide (o (first + j) < 0)) (4096 - first) = cnt v (4096 - first) := cnt_ext _ (fun j hj => by
    have := h.neg (first + j) (by omega)
    rw [show first + j - first = j by omega] at this
    by_cases c : j < count
    · by_cases e : v j = true
      · simp [e, this.2 ⟨by omega, by omega, e⟩]
      · have : ¬ o (first + j) < 0 := fun h => e (this.1 h).2.2
        simp [this]
        simpa using e
    · have : ¬ o (first + j) < 0 := fun h => c (by have := (this.1 h).2.1; omega)
      simp [this]
      exact hv j (by omega) (by omega))
  have e3 : cnt v (4096 - first + first) = cnt v (4096 - first) := by
    rw [cnt_add, cnt_none _ first (fun j hj => hv _ (by omega) (by omega)), Nat.add_zero]
  rw [show first + (4096 - first) = 4096 by omega] at e1
  rw [show 4096 - first + first = 4096 by omega] at e3
  rw [e1, e2, e3]
/-- Take, by cases ahead of the call. -/
theorem take_cases (g first count : Nat) (u v : Nat → Bool) (res : Nat) (n : Int) (w : World) (h : SpAt g first count u v res w) (hT : Tab w) :
    (∃ e : Int, ¬ e = 0 ∧ ∀ W, Same w W → Calls Tryd.prog 15 #[.pointer (some ⟨g, 0, none⟩), .int .i64 n] W fun r w' => r = .returned (.tuple #[.int .i64 0, .int .i64 e]) ∧ Same W w') ∨
    (∃ p m : Nat, n = (m : Int) ∧ 1 ≤ m ∧ p + m ≤ count ∧ allNo (fun i => u i || v i) p m ∧ ∀ W, Same w W → Calls Tryd.prog 15 #[.pointer (some ⟨g, 0, none⟩), .int .i64 n] W fun r w' => r = .returned (.tuple #[.int .i64 ((first + p : Nat) : Int), .int .i64 0]) ∧ SpAt g first count (fSet u p (p + m)) v res w' ∧ Kept (fun b => b = g) W w') := by
  by_cases h1 : n < 1
  · exact .inl ⟨1, by decide, fun W k => sp_takeArg g first count u v res n W (h.kept k (fun h => h)) h1⟩
  by_cases h2 : leftZ count u v res < n
  · exact .inl ⟨2, by decide, fun W k => sp_takeFull g first count u v res n W (h.kept k (fun h => h)) (by omega) h2⟩
  cases hf : fitR (rp (fun i => u i || v i) count) n with
  | none => exact .inl ⟨2, by decide, fun W k => (sp_takeRun g first count u v res n W (h.kept k (fun h => h)) (hT.same k) (by omega) h2).mono fun r w' p => p.no hf⟩
  | some x =>
    obtain ⟨a, m⟩ := x
    have hm := List.mem_of_find?_eq_some hf
    have hle := List.find?_some hf
    simp at hle
    have he := (rp_ends _ _ _ hm).1
    have hfr := rp_free _ _ _ hm
    refine .inr ⟨a, n.toNat, by omega, by omega, by show a + n.toNat ≤ count; have : a + m ≤ count := he; omega, fun i h3 h4 => hfr i h3 (by show i < a + m; omega), fun W k => (sp_takeRun g first count u v res n W (h.kept k (fun h => h)) (hT.same k) (by omega) h2).mono fun r w' p => ?_⟩
    obtain ⟨e1, e2, e3⟩ := p.yes a m hf
    refine ⟨?_, e2, e3⟩
    rw [e1]
    simp
theorem give_cases (f : Nat) (fr : Bool) (hfr : f = if fr then 16 else 17) (g first count : Nat) (u v : Nat → Bool) (res : Nat) (af ac : Int) (w : World) (h : SpAt g first count u v res w) (hT : Tab w) (ha : I64 af) :
    (∀ W, Same w W → Calls Tryd.prog f #[.pointer (some ⟨g, 0, none⟩), .agg #[.int .i64 af, .int .i64 ac]] W fun r w' => r = .returned (.int .i64 60) ∧ Same W w') ∨
    (∃ p m : Nat, af = ((first + p : Nat) : Int) ∧ ac = (m : Int) ∧ 1 ≤ m ∧ p + m ≤ count ∧ allNo (fun i => !u i) p m ∧ ∀ W, Same w W → Calls Tryd.prog f #[.pointer (some ⟨g, 0, none⟩), .agg #[.int .i64 af, .int .i64 ac]] W fun r w' => r = .returned (.int .i64 0) ∧ SpAt g first count (fUnset u p (p + m)) (if fr then v else fSet v p (p + m)) res w' ∧ Kept (fun b => b = g) W w') := by
  by_cases h1 : Wi first count af ac
  · obtain ⟨q1, q2, q3⟩ := h1
    obtain ⟨p, hp⟩ := Int.eq_ofNat_of_zero_le (show 0 ≤ af - first by omega)
    obtain ⟨m, hm⟩ := Int.eq_ofNat_of_zero_le (show 0 ≤ ac by omega)
    have e1 : af = ((first + p : Nat) : Int) := by omega
    have hpm : p + m ≤ count := by omega
    have hm1 : 1 ≤ m := by omega
    by_cases h2 : allNo (fun i => !u i) p m
    · refine .inr ⟨p, m, e1, hm, hm1, hpm, h2, fun W k => ?_⟩
      rw [e1, hm, hfr]
      cases fr with
      | true => exact sp_freeOk g first count u v res p m W (h.kept k (fun h => h)) hm1 hpm (hT.same k) h2
      | false => exact sp_laterOk g first count u v res p m W (h.kept k (fun h => h)) hm1 hpm (hT.same k) h2
    · refine .inl fun W k => ?_
      rw [e1, hm, hfr]
      have hg := fun W' (k' : Same W W') => sp_giveNo g first count u v res p m W' (h.kept (k.trans k') (fun h => h)) hm1 hpm (hT.same (k.trans k')) h2
      cases fr with
      | true => exact sp_freeNo g _ _ W hg
      | false => exact sp_laterNo g _ _ W hg
  · refine .inl fun W k => ?_
    rw [hfr]
    have hg := fun W' (k' : Same W W') => sp_giveOut g first count u v res af ac W' (h.kept (k.trans k') (fun h => h)) ha.2 h1
    cases fr with
    | true => exact sp_freeNo g _ _ W hg
    | false => exact sp_laterNo g _ _ W hg
end Go.Proofs.YtbmbdidmbdanmaaDoor
