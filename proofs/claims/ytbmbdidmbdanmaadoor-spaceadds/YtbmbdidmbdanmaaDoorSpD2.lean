/- Mark, Free, Later, Reserve, Release of both: told ahead of the calls. -/
import Derived.Test.YtbmbdidmbdanmaaDoorSpD1
namespace Go.Proofs.YtbmbdidmbdanmaaDoor
open Go.RowKit Go.Shelf
set_option linter.unusedVariables false
set_option linter.unusedSimpArgs false
variable {zp : Spare}
/-- What a call of both will tell, and make. -/
structure Bo (zp : Spare) (g q r first count : Nat) (u v : Nat → Bool) (res : Nat) (fA fB : Nat) (x : List Value) : Prop where
  ex : ∃ (e : Int) (u' v' : Nat → Bool) (res' : Nat),
    (∀ W, SpAt g first count u v res W → Tab W → Calls Tryd.prog fA (#[.pointer (some ⟨g, 0, none⟩)] ++ x.toArray) W fun a w' => a = .returned (.int .i64 e) ∧ SpAt g first count u' v' res' w' ∧ Kept (fun b => b = g) W w') ∧
    (∀ W, RfAt zp q r first count u v res W → Calls Tryd.prog fB (#[.pointer (some ⟨q, 0, none⟩)] ++ x.toArray) W fun a w' => a = .returned (.int .i64 e) ∧ RfAt zp q r first count u' v' res' w' ∧ Kept (fun b => b = q ∨ b = r) W w') ∧ Pl first count u' v' res'
theorem same_sp {g first count : Nat} {u v : Nat → Bool} {res : Nat} {W w' : World} (h : SpAt g first count u v res W) (k : Same W w') : SpAt g first count u v res w' ∧ Kept (fun b => b = g) W w' := ⟨h.kept k (fun h => h), k.mono (fun _ _ h => h.elim)⟩
theorem same_rf {q r first count : Nat} {u v : Nat → Bool} {res : Nat} {W w' : World} (h : RfAt zp q r first count u v res W) (k : Same W w') : RfAt zp q r first count u v res w' ∧ Kept (fun b => b = q ∨ b = r) W w' := ⟨h.kept k (fun h => h) (fun h => h), k.mono (fun _ _ h => h.elim)⟩
/-- An area is within, or it is not. -/
theorem area_cases (first count : Nat) (af ac : Int) : (¬ Wi first count af ac) ∨ ∃ p m : Nat, af = ((first + p : Nat) : Int) ∧ ac = (m : Int) ∧ 1 ≤ m ∧ p + m ≤ count := by
  by_cases h1 : Wi first count af ac
  · obtain ⟨q1, q2, q3⟩ := h1
    obtain ⟨p, hp⟩ := Int.eq_ofNat_of_zero_le (show 0 ≤ af - first by omega)
    obtain ⟨m, hm⟩ := Int.eq_ofNat_of_zero_le (show 0 ≤ ac by omega)
    exact .inr ⟨p, m, by omega, hm, by omega, by omega⟩
  · exact .inl h1
theorem not_in {first count : Nat} {af ac : Int} {P : Nat → Nat → Prop} (h : ¬ Wi first count af ac) : ¬ ∃ p m : Nat, af = (first : Int) + (p : Int) ∧ ac = (m : Int) ∧ 1 ≤ m ∧ p + m ≤ count ∧ P p m := fun ⟨p, m, e1, e2, e3, e4, _⟩ => h ⟨by omega, by omega, by omega⟩
theorem not_at {first count p m : Nat} {P : Nat → Nat → Prop} (h : ¬ P p m) : ¬ ∃ p' m' : Nat, ((first + p : Nat) : Int) = (first : Int) + (p' : Int) ∧ (m : Int) = (m' : Int) ∧ 1 ≤ m' ∧ p' + m' ≤ count ∧ P p' m' := fun ⟨p', m', e1, e2, e3, e4, e5⟩ => by
  have a : p' = p := by omega
  have b : m' = m := by omega
  subst a b
  exact h e5
theorem both_mark {g q r first count : Nat} {u v : Nat → Bool} {res : Nat} (hp : Pl first count u v res) (af ac : Int) (ha : I64 af) : Bo zp g q r first count u v res 21 33 [.agg #[.int .i64 af, .int .i64 ac]] := by
  rcases area_cases first count af ac with h1 | ⟨p, m, rfl, rfl, hm, hpm⟩
  · exact ⟨60, u, v, res, fun W hW _ => (sp_markOut g first count u v res af ac W hW ha.2 h1).mono fun a w' z => ⟨z.1, same_sp hW z.2⟩, fun W hW => (rf_markNo q r first count u v res af ac W hW hp ha.2 (not_in h1)).mono fun a w' z => ⟨z.1, same_rf hW z.2⟩, hp⟩
  by_cases h2 : allNo (fun i => u i || v i) p m
  · by_cases h3 : leftZ count u v res < m
    · exact ⟨2, u, v, res, fun W hW hT => (sp_markFull g first count u v res p m W hW hm hpm hT h2 h3).mono fun a w' z => ⟨z.1, same_sp hW z.2⟩, fun W hW => (rf_markFull q r first count p m u v res W hW hp hm hpm h2 h3).mono fun a w' z => ⟨z.1, same_rf hW z.2⟩, hp⟩
    · exact ⟨0, fSet u p (p + m), v, res, fun W hW hT => sp_markOk g first count u v res p m W hW hm hpm hT h2 h3, fun W hW => (rf_markOk q r first count p m u v res W hW hp hm hpm h2 h3).mono fun a w' z => ⟨z.1, z.2.1, z.2.2.mono (fun _ _ h => Or.inr h)⟩, hp.take hpm h2⟩
  · exact ⟨60, u, v, res, fun W hW hT => (sp_markBusy g first count u v res p m W hW hm hpm hT h2).mono fun a w' z => ⟨z.1, same_sp hW z.2⟩, fun W hW => (rf_markNo q r first count u v res _ _ W hW hp ha.2 (not_at (P := fun p m => allNo (fun i => u i || v i) p m) h2)).mono fun a w' z => ⟨z.1, same_rf hW z.2⟩, hp⟩
theorem both_free {g q r first count : Nat} {u v : Nat → Bool} {res : Nat} (hp : Pl first count u v res) (af ac : Int) (ha : I64 af) : Bo zp g q r first count u v res 16 34 [.agg #[.int .i64 af, .int .i64 ac]] := by
  rcases area_cases first count af ac with h1 | ⟨p, m, rfl, rfl, hm, hpm⟩
  · exact ⟨60, u, v, res, fun W hW _ => (sp_freeNo g af ac W (fun W' k => sp_giveOut g first count u v res af ac W' (hW.kept k (fun h => h)) ha.2 h1)).mono fun a w' z => ⟨z.1, same_sp hW z.2⟩, fun W hW => (rf_freeNo q r first count u v res af ac W hW hp ha.2 (not_in h1)).mono fun a w' z => ⟨z.1, same_rf hW z.2⟩, hp⟩
  by_cases h2 : allNo (fun i => !u i) p m
  · exact ⟨0, fUnset u p (p + m), v, res, fun W hW hT => sp_freeOk g first count u v res p m W hW hm hpm hT h2, fun W hW => (rf_freeOk q r first count p m u v res W hW hp hm hpm h2).mono fun a w' z => ⟨z.1, z.2.1, z.2.2.mono (fun _ _ h => Or.inr h)⟩, hp.free⟩
  · exact ⟨60, u, v, res, fun W hW hT => (sp_freeNo g _ _ W (fun W' k => sp_giveNo g first count u v res p m W' (hW.kept k (fun h => h)) hm hpm (hT.same k) h2)).mono fun a w' z => ⟨z.1, same_sp hW z.2⟩, fun W hW => (rf_freeNo q r first count u v res _ _ W hW hp ha.2 (not_at (P := fun p m => allNo (fun i => !u i) p m) h2)).mono fun a w' z => ⟨z.1, same_rf hW z.2⟩, hp⟩
theorem both_later {g q r first count : Nat} {u v : Nat → Bool} {res : Nat} (hp : Pl first count u v res) (af ac : Int) (ha : I64 af) : Bo zp g q r first count u v res 17 35 [.agg #[.int .i64 af, .int .i64 ac]] := by
  rcases area_cases first count af ac with h1 | ⟨p, m, rfl, rfl, hm, hpm⟩
  · exact ⟨60, u, v, res, fun W hW _ => (sp_laterNo g af ac W (fun W' k => sp_giveOut g first count u v res af ac W' (hW.kept k (fun h => h)) ha.2 h1)).mono fun a w' z => ⟨z.1, same_sp hW z.2⟩, fun W hW => (rf_laterNo q r first count u v res af ac W hW hp ha.2 (not_in h1)).mono fun a w' z => ⟨z.1, same_rf hW z.2⟩, hp⟩
  by_cases h2 : allNo (fun i => !u i) p m
  · exact ⟨0, fUnset u p (p + m), fSet v p (p + m), res, fun W hW hT => sp_laterOk g first count u v res p m W hW hm hpm hT h2, fun W hW => (rf_laterOk q r first count p m u v res W hW hp hm hpm h2).mono fun a w' z => ⟨z.1, z.2.1, z.2.2.mono (fun _ _ h => Or.inr h)⟩, hp.later hpm⟩
  · exact ⟨60, u, v, res, fun W hW hT => (sp_laterNo g _ _ W (fun W' k => sp_giveNo g first count u v res p m W' (hW.kept k (fun h => h)) hm hpm (hT.same k) h2)).mono fun a w' z => ⟨z.1, same_sp hW z.2⟩, fun W hW => (rf_laterNo q r first count u v res _ _ W hW hp ha.2 (not_at (P := fun p m => allNo (fun i => !u i) p m) h2)).mono fun a w' z => ⟨z.1, same_rf hW z.2⟩, hp⟩
theorem both_reserve {g q r first count : Nat} {u v : Nat → Bool} {res : Nat} (hp : Pl first count u v res) (n : Int) : Bo zp g q r first count u v res 19 37 [.int .i64 n] := by
  by_cases h1 : n < 0
  · exact ⟨1, u, v, res, fun W hW _ => (sp_resArg g first count u v res n W hW h1).mono fun a w' z => ⟨z.1, same_sp hW (z.2 ▸ Kept.refl _ _)⟩, fun W hW => (rf_resArg q r first count u v res n W h1).mono fun a w' z => ⟨z.1, same_rf hW z.2⟩, hp⟩
  by_cases h2 : leftZ count u v res < n
  · exact ⟨2, u, v, res, fun W hW _ => (sp_resFull g first count u v res n W hW (by omega) h2).mono fun a w' z => ⟨z.1, same_sp hW z.2⟩, fun W hW => (rf_resFull q r first count u v res n W hW hp (by omega) h2).mono fun a w' z => ⟨z.1, same_rf hW z.2⟩, hp⟩
  · exact ⟨0, u, v, res + n.toNat, fun W hW _ => sp_resOk g first count u v res n W hW (by omega) h2, fun W hW => (rf_resOk q r first count u v res n W hW hp (by omega) h2).mono fun a w' z => ⟨z.1, z.2.1, z.2.2.mono (fun _ _ h => Or.inl h)⟩, hp.res (by have := left_le count u v res; have := hp.fits; omega)⟩
theorem both_release {g q r first count : Nat} {u v : Nat → Bool} {res : Nat} (hp : Pl first count u v res) (n : Int) : Bo zp g q r first count u v res 20 38 [.int .i64 n] := by
  by_cases h1 : n < 0
  · exact ⟨1, u, v, res, fun W hW _ => (sp_relArg g first count u v res n W hW h1).mono fun a w' z => ⟨z.1, same_sp hW (z.2 ▸ Kept.refl _ _)⟩, fun W hW => (rf_relArg q r first count u v res n W hW (.inl h1)).mono fun a w' z => ⟨z.1, same_rf hW z.2⟩, hp⟩
  by_cases h2 : (res : Int) < n
  · exact ⟨1, u, v, res, fun W hW _ => (sp_relMuch g first count u v res n W hW (by omega) h2).mono fun a w' z => ⟨z.1, same_sp hW (z.2 ▸ Kept.refl _ _)⟩, fun W hW => (rf_relArg q r first count u v res n W hW (.inr h2)).mono fun a w' z => ⟨z.1, same_rf hW z.2⟩, hp⟩
  · exact ⟨0, u, v, res - n.toNat, fun W hW _ => sp_relOk g first count u v res n W hW (by omega) h2, fun W hW => (rf_relOk q r first count u v res n W hW hp.fits.2.2 (by omega) h2).mono fun a w' z => ⟨z.1, z.2.1, z.2.2.mono (fun _ _ h => Or.inl h)⟩, hp.res (by have := hp.fits; omega)⟩
end Go.Proofs.YtbmbdidmbdanmaaDoor
