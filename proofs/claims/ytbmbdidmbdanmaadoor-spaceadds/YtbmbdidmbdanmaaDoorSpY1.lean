/- Used, waiting and free ones are all: pure, and what each call makes of what is left. -/
import Derived.Test.YtbmbdidmbdanmaaDoorSpV
namespace Go.Proofs.YtbmbdidmbdanmaaDoor
open Go.RowKit Go.Shelf
set_option linter.unusedVariables false
set_option linter.unusedSimpArgs false
theorem fSet_more (u : Nat → Bool) (p m : Nat) : fSet u p (p + (m + 1)) = fSet (fSet u p (p + m)) (p + m) (p + m + 1) := by
  funext i
  unfold fSet
  by_cases h1 : p ≤ i <;> by_cases h2 : i < p + m <;> by_cases h3 : i = p + m
  all_goals
    have e1 : decide (i < p + (m + 1)) = (decide (i < p + m) || decide (i = p + m)) := by
      by_cases c1 : i < p + m <;> by_cases c2 : i = p + m <;> simp [c1, c2] <;> omega
    have e2 : (decide (p + m ≤ i) && decide (i < p + m + 1)) = decide (i = p + m) := by
      by_cases c2 : i = p + m
      · subst c2; simp
      · by_cases c3 : p + m ≤ i
        · have : ¬ i < p + m + 1 := by omega
          simp [c2, c3, this]
        · simp [c2, c3]
    rw [e1, e2]
    cases u i <;> simp [h1, h2, h3] <;> omega
theorem cnt_fSet (u : Nat → Bool) (p : Nat) : ∀ m n, (∀ i, p ≤ i → i < p + m → u i = false) → p + m ≤ n → cnt (fSet u p (p + m)) n = cnt u n + m
  | 0, n, _, _ => by
    refine (cnt_ext n fun j _ => ?_).trans (Nat.add_zero _).symm
    unfold fSet
    by_cases h1 : p ≤ j
    · have : ¬ j < p := by omega
      simp [this]
    · simp [h1]
  | m + 1, n, h, hn => by
    rw [fSet_more, cnt_set1 _ _ (by
      unfold fSet
      rw [h (p + m) (by omega) (by omega)]
      simp), if_pos (by omega), cnt_fSet u p m n (fun i h1 h2 => h i h1 (by omega)) (by omega)]
    omega
theorem cnt_fUnset {u : Nat → Bool} {p m n : Nat} (h : allNo (fun i => !u i) p m) (hn : p + m ≤ n) : cnt (fUnset u p (p + m)) n + m = cnt u n := by
  rw [← cnt_fSet (fUnset u p (p + m)) p m n (fun i h1 h2 => by unfold fUnset; simp [h1, h2]) hn]
  refine cnt_ext n fun j _ => ?_
  unfold fSet fUnset
  by_cases h1 : p ≤ j
  · by_cases h2 : j < p + m
    · have := h j h1 h2
      simp at this
      simp [this, h1, h2]
    · simp [h2]
  · simp [h1]
theorem cnt_dis {u v : Nat → Bool} : ∀ n, (∀ i, i < n → u i = true → v i = false) → cnt (fun i => u i || v i) n = cnt u n + cnt v n
  | 0, _ => rfl
  | n + 1, h => by
    have ih := cnt_dis n (fun i hi => h i (by omega))
    simp only [cnt]
    rw [ih]
    have := h n (by omega)
    cases e1 : u n <;> cases e2 : v n <;> simp <;> first | omega | (rw [this e1] at e2; cases e2)
theorem rp_sum (t : Nat → Bool) : ∀ n, ((rp t n).map (fun r => r.2)).sum + cnt t n = n
  | 0 => rfl
  | n + 1 => by
    have ih := rp_sum t n
    rw [rp_succ]
    simp only [cnt]
    cases e : t n with
    | true => simp; omega
    | false =>
      simp only [Bool.false_eq_true, if_false]
      rcases List.eq_nil_or_concat (rp t n) with e0 | ⟨l, x, e0⟩
      · rw [e0] at ih ⊢
        simp at ih ⊢
        omega
      · rw [List.concat_eq_append] at e0
        obtain ⟨a, k⟩ := x
        rw [e0] at ih ⊢
        simp at ih ⊢
        split
        · simp; omega
        · simp; omega
def fs {count : Nat} (l : List (Rn count)) : Nat := (l.map fun r => r.1.2).sum
theorem fs_add {count : Nat} (l : List (Rn count)) (x : Rn count) : fs (l ++ [x]) = fs l + x.1.2 := by simp [fs]
theorem fs_pre {count : Nat} {l m : List (Rn count)} (h : l <+: m) : fs l ≤ fs m := by
  obtain ⟨c, rfl⟩ := h
  simp [fs]
theorem fs_le {count : Nat} (hc : count ≤ 4096) : ∀ l : List (Rn count), fs l ≤ l.length * 4096
  | [] => Nat.zero_le _
  | x :: l => by
    have h1 := fs_le hc l
    have h2 := x.2
    simp only [fs, List.map_cons, List.sum_cons, List.length_cons] at h1 ⊢
    omega
theorem lf_len {count : Nat} (t : Nat → Bool) : (lf count (rp t count)).length ≤ count := by
  have e := congrArg List.length (lf_map count (rp t count) (fun r hr => (rp_ends t count r hr).1))
  rw [List.length_map] at e
  rw [e]
  exact rp_len t count
theorem fs_all {count : Nat} (t : Nat → Bool) : fs (lf count (rp t count)) + cnt t count = count := by
  have e := lf_map count (rp t count) (fun r hr => (rp_ends t count r hr).1)
  have h := rp_sum t count
  rw [← e] at h
  unfold fs
  rw [List.map_map] at h
  exact h
theorem lf_pos {count : Nat} {t : Nat → Bool} {x : Rn count} (h : x ∈ lf count (rp t count)) : 1 ≤ x.1.2 := by
  have e := lf_map count (rp t count) (fun r hr => (rp_ends t count r hr).1)
  have hm : x.1 ∈ (lf count (rp t count)).map (·.1) := List.mem_map.2 ⟨x, h, rfl⟩
  rw [e] at hm
  exact (rp_ends t count x.1 hm).2
/-- What stands of a Space between the calls: plain. -/
structure AI (first count : Nat) (u v : Nat → Bool) (res : Nat) : Prop where
  pl : Pl first count u v res
  ge : 0 ≤ leftZ count u v res
theorem AI.cut {first count : Nat} {u v : Nat → Bool} {res : Nat} (h : AI first count u v res) {L : List (Rn count)} (hL : L = lf count (rp (fun i => u i || v i) count)) : fs L + cnt u 4096 + cnt v 4096 = count ∧ leftZ count u v res = (fs L : Int) - res := by
  have hf := h.pl.fits
  have h1 := cnt_top (u := u) (count := count) (by omega) h.pl.inU
  have h2 := cnt_top (u := v) (count := count) (by omega) h.pl.inV
  have h3 := cnt_dis count h.pl.dis
  have h4 := fs_all (count := count) (fun i => u i || v i)
  rw [hL]
  unfold leftZ
  omega
/-- What a call will tell, and make. -/
structure Ao (g first count : Nat) (u v : Nat → Bool) (res : Nat) (f : Nat) (x : Array Value) : Prop where
  ex : ∃ (y : Value) (u' v' : Nat → Bool) (res' : Nat), (∀ W, SpAt g first count u v res W → Tab W → Calls Tryd.prog f x W fun a w' => a = .returned y ∧ SpAt g first count u' v' res' w' ∧ Kept (fun b => b = g) W w') ∧ AI first count u' v' res' ∧ res' = res
theorem ao_take {g first count : Nat} {u v : Nat → Bool} {res : Nat} (h : AI first count u v res) (n : Int) : Ao g first count u v res 15 #[.pointer (some ⟨g, 0, none⟩), .int .i64 n] := by
  by_cases h1 : n < 1
  · exact ⟨_, u, v, res, fun W hW _ => (sp_takeArg g first count u v res n W hW h1).mono fun a w' z => ⟨z.1, same_sp hW z.2⟩, h, rfl⟩
  by_cases h2 : leftZ count u v res < n
  · exact ⟨_, u, v, res, fun W hW _ => (sp_takeFull g first count u v res n W hW (by omega) h2).mono fun a w' z => ⟨z.1, same_sp hW z.2⟩, h, rfl⟩
  cases hf : fitR (rp (fun i => u i || v i) count) n with
  | none => exact ⟨_, u, v, res, fun W hW hT => (sp_takeRun g first count u v res n W hW hT (by omega) h2).mono fun a w' p => ⟨(p.no hf).1, same_sp hW (p.no hf).2⟩, h, rfl⟩
  | some x =>
    obtain ⟨a, m⟩ := x
    have hm := List.mem_of_find?_eq_some hf
    have hle := List.find?_some hf
    simp at hle
    have he : a + m ≤ count := (rp_ends _ _ _ hm).1
    have hfr := rp_free _ _ _ hm
    have hno : allNo (fun i => u i || v i) a n.toNat := fun i h3 h4 => hfr i h3 (by show i < a + m; omega)
    have hfi := h.pl.fits
    have hc := cnt_fSet u a n.toNat 4096 (fun i h3 h4 => by have := hno i h3 h4; simp at this; exact this.1) (by omega)
    refine ⟨_, _, v, res, fun W hW hT => (sp_takeRun g first count u v res n W hW hT (by omega) h2).mono fun e w' p => p.yes a m hf, ⟨h.pl.take (by omega) hno, ?_⟩, rfl⟩
    have h5 := h.ge
    unfold leftZ at h5 h2 ⊢
    rw [hc]
    omega
theorem ao_mark {g first count : Nat} {u v : Nat → Bool} {res : Nat} (h : AI first count u v res) (af ac : Int) (ha : I64 af) : Ao g first count u v res 21 #[.pointer (some ⟨g, 0, none⟩), .agg #[.int .i64 af, .int .i64 ac]] := by
  have hfi := h.pl.fits
  rcases area_cases first count af ac with h1 | ⟨p, m, rfl, rfl, hm, hpm⟩
  · exact ⟨_, u, v, res, fun W hW _ => (sp_markOut g first count u v res af ac W hW ha.2 h1).mono fun a w' z => ⟨z.1, same_sp hW z.2⟩, h, rfl⟩
  by_cases h2 : allNo (fun i => u i || v i) p m
  · by_cases h3 : leftZ count u v res < m
    · exact ⟨_, u, v, res, fun W hW hT => (sp_markFull g first count u v res p m W hW hm hpm hT h2 h3).mono fun a w' z => ⟨z.1, same_sp hW z.2⟩, h, rfl⟩
    · have hc := cnt_fSet u p m 4096 (fun i h3 h4 => by have := h2 i h3 h4; simp at this; exact this.1) (by omega)
      refine ⟨_, fSet u p (p + m), v, res, fun W hW hT => sp_markOk g first count u v res p m W hW hm hpm hT h2 h3, ⟨h.pl.take hpm h2, ?_⟩, rfl⟩
      unfold leftZ at h3 ⊢
      rw [hc]
      omega
  · exact ⟨_, u, v, res, fun W hW hT => (sp_markBusy g first count u v res p m W hW hm hpm hT h2).mono fun a w' z => ⟨z.1, same_sp hW z.2⟩, h, rfl⟩
theorem ao_free {g first count : Nat} {u v : Nat → Bool} {res : Nat} (h : AI first count u v res) (af ac : Int) (ha : I64 af) : Ao g first count u v res 16 #[.pointer (some ⟨g, 0, none⟩), .agg #[.int .i64 af, .int .i64 ac]] := by
  have hfi := h.pl.fits
  rcases area_cases first count af ac with h1 | ⟨p, m, rfl, rfl, hm, hpm⟩
  · exact ⟨_, u, v, res, fun W hW _ => (sp_freeNo g af ac W (fun W' k => sp_giveOut g first count u v res af ac W' (hW.kept k (fun h => h)) ha.2 h1)).mono fun a w' z => ⟨z.1, same_sp hW z.2⟩, h, rfl⟩
  by_cases h2 : allNo (fun i => !u i) p m
  · have hc := cnt_fUnset h2 (show p + m ≤ 4096 by omega)
    refine ⟨_, fUnset u p (p + m), v, res, fun W hW hT => sp_freeOk g first count u v res p m W hW hm hpm hT h2, ⟨h.pl.free, ?_⟩, rfl⟩
    have h5 := h.ge
    unfold leftZ at h5 ⊢
    omega
  · exact ⟨_, u, v, res, fun W hW hT => (sp_freeNo g _ _ W (fun W' k => sp_giveNo g first count u v res p m W' (hW.kept k (fun h => h)) hm hpm (hT.same k) h2)).mono fun a w' z => ⟨z.1, same_sp hW z.2⟩, h, rfl⟩
theorem ao_later {g first count : Nat} {u v : Nat → Bool} {res : Nat} (h : AI first count u v res) (af ac : Int) (ha : I64 af) : Ao g first count u v res 17 #[.pointer (some ⟨g, 0, none⟩), .agg #[.int .i64 af, .int .i64 ac]] := by
  have hfi := h.pl.fits
  rcases area_cases first count af ac with h1 | ⟨p, m, rfl, rfl, hm, hpm⟩
  · exact ⟨_, u, v, res, fun W hW _ => (sp_laterNo g af ac W (fun W' k => sp_giveOut g first count u v res af ac W' (hW.kept k (fun h => h)) ha.2 h1)).mono fun a w' z => ⟨z.1, same_sp hW z.2⟩, h, rfl⟩
  by_cases h2 : allNo (fun i => !u i) p m
  · have hc := cnt_fUnset h2 (show p + m ≤ 4096 by omega)
    have hc2 := cnt_fSet v p m 4096 (fun i h3 h4 => h.pl.dis i (by omega) (by have := h2 i h3 h4; simpa using this)) (by omega)
    refine ⟨_, fUnset u p (p + m), fSet v p (p + m), res, fun W hW hT => sp_laterOk g first count u v res p m W hW hm hpm hT h2, ⟨h.pl.later hpm, ?_⟩, rfl⟩
    have h5 := h.ge
    unfold leftZ at h5 ⊢
    rw [hc2]
    omega
  · exact ⟨_, u, v, res, fun W hW hT => (sp_laterNo g _ _ W (fun W' k => sp_giveNo g first count u v res p m W' (hW.kept k (fun h => h)) hm hpm (hT.same k) h2)).mono fun a w' z => ⟨z.1, same_sp hW z.2⟩, h, rfl⟩
theorem ao_settle {g first count : Nat} {u v : Nat → Bool} {res : Nat} (h : AI first count u v res) : Ao g first count u v res 18 #[.pointer (some ⟨g, 0, none⟩)] := by
  refine ⟨_, u, fun _ => false, res, fun W hW _ => sp_settle g first count u v res W hW, ⟨h.pl.settle, ?_⟩, rfl⟩
  have h5 := h.ge
  have h0 : cnt (fun _ => false) 4096 = 0 := cnt_none _ _ (fun _ _ => rfl)
  unfold leftZ at h5 ⊢
  rw [h0]
  omega
/-- Reserve and Release: what the law adds up. -/
theorem ao_res {g first count : Nat} {u v : Nat → Bool} {res : Nat} (h : AI first count u v res) (n : Int) : ∃ (e : Int) (res' : Nat), (∀ W, SpAt g first count u v res W → Calls Tryd.prog 19 #[.pointer (some ⟨g, 0, none⟩), .int .i64 n] W fun a w' => a = .returned (.int .i64 e) ∧ SpAt g first count u v res' w' ∧ Kept (fun b => b = g) W w') ∧ AI first count u v res' ∧ ((e = 0 ∧ (res' : Int) = res + n) ∨ (¬ e = 0 ∧ res' = res)) := by
  have h5 := h.ge
  have hfi := h.pl.fits
  by_cases h1 : n < 0
  · exact ⟨1, res, fun W hW => (sp_resArg g first count u v res n W hW h1).mono fun a w' z => ⟨z.1, same_sp hW (z.2 ▸ Kept.refl _ _)⟩, h, .inr ⟨by decide, rfl⟩⟩
  by_cases h2 : leftZ count u v res < n
  · exact ⟨2, res, fun W hW => (sp_resFull g first count u v res n W hW (by omega) h2).mono fun a w' z => ⟨z.1, same_sp hW z.2⟩, h, .inr ⟨by decide, rfl⟩⟩
  · have hl := left_le count u v res
    refine ⟨0, res + n.toNat, fun W hW => sp_resOk g first count u v res n W hW (by omega) h2, ⟨h.pl.res (by omega), ?_⟩, .inl ⟨rfl, by omega⟩⟩
    unfold leftZ at h2 ⊢
    omega
theorem ao_rel {g first count : Nat} {u v : Nat → Bool} {res : Nat} (h : AI first count u v res) (n : Int) : ∃ (e : Int) (res' : Nat), (∀ W, SpAt g first count u v res W → Calls Tryd.prog 20 #[.pointer (some ⟨g, 0, none⟩), .int .i64 n] W fun a w' => a = .returned (.int .i64 e) ∧ SpAt g first count u v res' w' ∧ Kept (fun b => b = g) W w') ∧ AI first count u v res' ∧ ((e = 0 ∧ (res' : Int) = res - n) ∨ (¬ e = 0 ∧ res' = res)) := by
  have h5 := h.ge
  have hfi := h.pl.fits
  by_cases h1 : n < 0
  · exact ⟨1, res, fun W hW => (sp_relArg g first count u v res n W hW h1).mono fun a w' z => ⟨z.1, same_sp hW (z.2 ▸ Kept.refl _ _)⟩, h, .inr ⟨by decide, rfl⟩⟩
  by_cases h2 : (res : Int) < n
  · exact ⟨1, res, fun W hW => (sp_relMuch g first count u v res n W hW (by omega) h2).mono fun a w' z => ⟨z.1, same_sp hW (z.2 ▸ Kept.refl _ _)⟩, h, .inr ⟨by decide, rfl⟩⟩
  · refine ⟨0, res - n.toNat, fun W hW => sp_relOk g first count u v res n W hW (by omega) h2, ⟨h.pl.res (by omega), ?_⟩, .inl ⟨rfl, by omega⟩⟩
    unfold leftZ at h5 ⊢
    omega
end Go.Proofs.YtbmbdidmbdanmaaDoor
