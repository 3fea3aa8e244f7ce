/- The program's Space and the document's, the same: how plain values stay so. -/
import Derived.Test.YtbmbdidmbdanmaaDoorSpB3
namespace Go.Proofs.YtbmbdidmbdanmaaDoor
open Go.RowKit Go.Shelf
set_option linter.unusedVariables false
set_option linter.unusedSimpArgs false
variable {zp : Spare}
theorem Pl.start {first count : Nat} (h1 : 1 ≤ count) (h2 : first + count ≤ 4096) : Pl first count (fun _ => false) (fun _ => false) 0 :=
  ⟨⟨h1, h2, by omega⟩, fun _ _ _ => rfl, fun _ _ _ => rfl, fun _ _ h => by cases h⟩
theorem Pl.take {first count : Nat} {u v : Nat → Bool} {res : Nat} (h : Pl first count u v res) {p m : Nat} (hp : p + m ≤ count) (hn : allNo (fun i => u i || v i) p m) : Pl first count (fSet u p (p + m)) v res := by
  refine ⟨h.fits, fSet_in h.inU hp, h.inV, fun i hi e => ?_⟩
  by_cases c : p ≤ i ∧ i < p + m
  · have := hn i c.1 c.2
    simp at this
    exact this.2
  · have e' : (decide (p ≤ i) && decide (i < p + m)) = false := by simp; omega
    unfold fSet at e
    rw [e', Bool.or_false] at e
    exact h.dis i hi e
theorem Pl.free {first count : Nat} {u v : Nat → Bool} {res : Nat} (h : Pl first count u v res) {p m : Nat} : Pl first count (fUnset u p (p + m)) v res := by
  refine ⟨h.fits, fUnset_in h.inU, h.inV, fun i hi e => ?_⟩
  unfold fUnset at e
  rw [Bool.and_eq_true] at e
  exact h.dis i hi e.1
theorem Pl.later {first count : Nat} {u v : Nat → Bool} {res : Nat} (h : Pl first count u v res) {p m : Nat} (hp : p + m ≤ count) : Pl first count (fUnset u p (p + m)) (fSet v p (p + m)) res := by
  refine ⟨h.fits, fUnset_in h.inU, fSet_in h.inV hp, fun i hi e => ?_⟩
  unfold fUnset at e
  rw [Bool.and_eq_true] at e
  have := h.dis i hi e.1
  have e2 : (decide (p ≤ i) && decide (i < p + m)) = false := by have := e.2; cases hc : (decide (p ≤ i) && decide (i < p + m)) with | false => rfl | true => rw [hc] at this; cases this
  unfold fSet
  rw [this, e2]
  rfl
theorem Pl.settle {first count : Nat} {u v : Nat → Bool} {res : Nat} (h : Pl first count u v res) : Pl first count u (fun _ => false) res := ⟨h.fits, h.inU, fun _ _ _ => rfl, fun _ _ _ => rfl⟩
theorem Pl.res {first count : Nat} {u v : Nat → Bool} {res : Nat} (h : Pl first count u v res) {res' : Nat} (hr : res' ≤ 4096) : Pl first count u v res' := ⟨⟨h.fits.1, h.fits.2.1, hr⟩, h.inU, h.inV, h.dis⟩
/-- What may turn where both are worked on. -/
def Tri (g q r : Nat) : Nat → Prop := fun b => b = g ∨ b = q ∨ b = r
/-- The program's Space at g and the document's at q, its row at r, the same. -/
structure Pr (zp : Spare) (g q r first count : Nat) (u v : Nat → Bool) (res : Nat) (w : World) : Prop where
  sp : SpAt g first count u v res w
  rf : RfAt zp q r first count u v res w
  pl : Pl first count u v res
  tab : Tab w
  gq : g ≠ q
  gr : g ≠ r
  tg : 0 ≠ g
  tq : 0 ≠ q
  tr : 0 ≠ r
theorem Pr.qr {g q r first count : Nat} {u v : Nat → Bool} {res : Nat} {w : World} (h : Pr zp g q r first count u v res w) : q ≠ r := h.rf.gen.ne
theorem Pr.keep {g q r first count : Nat} {u v : Nat → Bool} {res : Nat} {w w' : World} (h : Pr zp g q r first count u v res w) (k : Same w w') : Pr zp g q r first count u v res w' :=
  ⟨h.sp.kept k (fun h => h), h.rf.kept k (fun h => h) (fun h => h), h.pl, h.tab.same k, h.gq, h.gr, h.tg, h.tq, h.tr⟩
/-- The program's Space has been turned, then the document's. -/
theorem Pr.step {g q r first count : Nat} {u v u' v' : Nat → Bool} {res res' : Nat} {w w1 w2 : World} (h : Pr zp g q r first count u v res w) (s1 : SpAt g first count u' v' res' w1) (k1 : Kept (fun b => b = g) w w1) (s2 : RfAt zp q r first count u' v' res' w2) (k2 : Kept (fun b => b = q ∨ b = r) w1 w2) (hp : Pl first count u' v' res') :
    Pr zp g q r first count u' v' res' w2 ∧ Kept (Tri g q r) w w2 := by
  have a1 := h.gq
  have a2 := h.gr
  have a3 := h.tg
  have a4 := h.tq
  have a5 := h.tr
  exact ⟨⟨s1.kept k2 (by omega), s2, hp, (h.tab.kept k1 a3).kept k2 (by omega), a1, a2, a3, a4, a5⟩, (k1.mono (fun _ _ e => Or.inl e)).trans (k2.mono (fun _ _ e => Or.inr e))⟩
/-- The document's Space has been turned, then the program's. -/
theorem Pr.stepR {g q r first count : Nat} {u v u' v' : Nat → Bool} {res res' : Nat} {w w1 w2 : World} (h : Pr zp g q r first count u v res w) (s1 : RfAt zp q r first count u' v' res' w1) (k1 : Kept (fun b => b = q ∨ b = r) w w1) (s2 : SpAt g first count u' v' res' w2) (k2 : Kept (fun b => b = g) w1 w2) (hp : Pl first count u' v' res') :
    Pr zp g q r first count u' v' res' w2 ∧ Kept (Tri g q r) w w2 := by
  have a1 := h.gq
  have a2 := h.gr
  have a3 := h.tg
  have a4 := h.tq
  have a5 := h.tr
  exact ⟨⟨s2, s1.kept k2 (fun e => a1 e.symm) (fun e => a2 e.symm), hp, (h.tab.kept k1 (by omega)).kept k2 a3, a1, a2, a3, a4, a5⟩, (k1.mono (fun _ _ e => Or.inr e)).trans (k2.mono (fun _ _ e => Or.inl e))⟩
/-- Take of both, by cases ahead of the calls. -/
theorem both_take {g q r first count : Nat} {u v : Nat → Bool} {res : Nat} {w : World} (h : Pr zp g q r first count u v res w) (n : Int) :
    (∃ e : Int, (∀ W, Same w W → Calls Tryd.prog 15 #[.pointer (some ⟨g, 0, none⟩), .int .i64 n] W fun a w' => a = .returned (.tuple #[.int .i64 0, .int .i64 e]) ∧ Same W w') ∧ ∀ W, RfAt zp q r first count u v res W → Calls Tryd.prog 32 #[.pointer (some ⟨q, 0, none⟩), .int .i64 n] W fun a w' => a = .returned (.tuple #[.int .i64 0, .int .i64 e]) ∧ Same W w') ∨
    (∃ p m : Nat, n = (m : Int) ∧ 1 ≤ m ∧ p + m ≤ count ∧ allNo (fun i => u i || v i) p m ∧ (∀ W, Same w W → Calls Tryd.prog 15 #[.pointer (some ⟨g, 0, none⟩), .int .i64 n] W fun a w' => a = .returned (.tuple #[.int .i64 ((first + p : Nat) : Int), .int .i64 0]) ∧ SpAt g first count (fSet u p (p + m)) v res w' ∧ Kept (fun b => b = g) W w') ∧
      ∀ W, RfAt zp q r first count u v res W → Calls Tryd.prog 32 #[.pointer (some ⟨q, 0, none⟩), .int .i64 n] W fun a w' => a = .returned (.tuple #[.int .i64 ((first + p : Nat) : Int), .int .i64 0]) ∧ RfAt zp q r first count (fSet u p (p + m)) v res w' ∧ Kept (fun b => b = r) W w') := by
  by_cases h1 : n < 1
  · exact .inl ⟨1, fun W k => sp_takeArg g first count u v res n W (h.sp.kept k (fun h => h)) h1, fun W _ => rf_takeArg q n W h1⟩
  by_cases h2 : leftZ count u v res < n
  · exact .inl ⟨2, fun W k => sp_takeFull g first count u v res n W (h.sp.kept k (fun h => h)) (by omega) h2, fun W hW => rf_takeFull q r first count u v res n W hW h.pl (by omega) h2⟩
  obtain ⟨m, rfl⟩ := Int.eq_ofNat_of_zero_le (show 0 ≤ n by omega)
  have hm4 : m ≤ 4096 := by have := left_le count u v res; have := h.pl.fits; omega
  cases hf : fitR (rp (fun i => u i || v i) count) (m : Int) with
  | none => exact .inl ⟨2, fun W k => (sp_takeRun g first count u v res m W (h.sp.kept k (fun h => h)) (h.tab.same k) (by omega) h2).mono fun a w' p => p.no hf, fun W hW => (rf_takeRun q r first count m u v res W hW h.pl (by omega) hm4 h2).mono fun a w' p => p.2 hf⟩
  | some x =>
    obtain ⟨a, pm⟩ := x
    have hm := List.mem_of_find?_eq_some hf
    have hle := List.find?_some hf
    simp at hle
    have he : a + pm ≤ count := (rp_ends _ _ _ hm).1
    have hfr := rp_free _ _ _ hm
    refine .inr ⟨a, m, rfl, by omega, by omega, fun i h3 h4 => hfr i h3 (by show i < a + pm; omega), fun W k => (sp_takeRun g first count u v res m W (h.sp.kept k (fun h => h)) (h.tab.same k) (by omega) h2).mono fun e w' p => ?_, fun W hW => (rf_takeRun q r first count m u v res W hW h.pl (by omega) hm4 h2).mono fun e w' p => p.1 a pm hf⟩
    obtain ⟨e1, e2, e3⟩ := p.yes a pm hf
    refine ⟨?_, ?_, e3⟩
    · rw [e1]
      simp
    · simpa using e2
end Go.Proofs.YtbmbdidmbdanmaaDoor
