/- journal: both Writers in memory, apart from each other and from all that was there before. -/
import Derived.Test.YtljbmpnpbjnbkaaDoorJD9
import Derived.Test.YtljbmpnpbjnbkaaDoorJF1
namespace Go.Proofs.YtljbmpnpbjnbkaaDoor
open Go.RowKit
set_option linter.unusedVariables false
set_option linter.unusedSimpArgs false
theorem DL.kept {g : Nat} {d : DSt} {w w' : World} {rv : Value} {us : List Value} {S : Nat → Prop} (h : DL g d w rv us) (k : Kept S w w') (hs : ∀ i, dS g rv us i → ¬ S i) : DL g d w' rv us :=
  ⟨blk_kept k (hs g (.inl rfl)) h.box, h.len, own_kept h.row k (fun i e => hs i (.inr (.inl e))), fun i x u hx hu => own_kept (h.rooms i x u hx hu) k (fun j e => hs j (.inr (.inr ⟨i, u, hu, e⟩))), h.apart⟩
theorem DL.lt {g : Nat} {d : DSt} {w : World} {rv : Value} {us : List Value} (h : DL g d w rv us) {k : Nat} (hk : dS g rv us k) : k < w.heap.size := by
  rcases hk with rfl | e | ⟨j, u, hu, e⟩
  · exact blk_lt h.box
  · exact blk_lt (own_bk h.row e).2.choose_spec
  · obtain ⟨x, hx⟩ : ∃ x, d.rooms[j]? = some x := ⟨_, List.getElem?_eq_getElem (by have := (List.getElem?_eq_some_iff.1 hu).1; have := h.len; omega)⟩
    exact blk_lt (own_bk (h.rooms j x u hx hu) e).2.choose_spec
theorem JW.jlt {g : Nat} {s : JSt} {w : World} (h : JW g s w) {k : Nat} (hk : jS g w k) : k < w.heap.size := by
  obtain ⟨⟨v, hb, ho⟩, _⟩ := h
  rcases hk with rfl | e
  · exact blk_lt hb
  · unfold rowOf at e
    rw [blk_cell hb] at e
    exact blk_lt (own_bk ho (by simpa using e)).2.choose_spec
theorem JW.jkept {g : Nat} {s : JSt} {w w' : World} {S : Nat → Prop} (h : JW g s w) (k : Kept S w w') (hs : ¬ S g) (i : Nat) : jS g w' i ↔ jS g w i := by
  have hc : w'.cell? ⟨g, 4, none⟩ = w.cell? ⟨g, 4, none⟩ := World.cell?_of_block (k.block g h.lt hs)
  unfold jS rowOf
  rw [hc]
/-- The program's Writer at gp, the document's at gd: none of their blocks is older than B, none belongs to both. -/
structure JX (B gp gd : Nat) (s : JSt) (d : DSt) (rv : Value) (us : List Value) (w : World) : Prop where
  p : JW gp s w
  pb : ∀ k, jS gp w k → B ≤ k
  d : DL gd d w rv us
  db : ∀ k, dS gd rv us k → B ≤ k ∧ ¬ jS gp w k
theorem JX.low {B gp gd : Nat} {s : JSt} {d : DSt} {rv : Value} {us : List Value} {w : World} (h : JX B gp gd s d rv us w) : B ≤ w.heap.size :=
  Nat.le_trans (h.pb gp (.inl rfl)) (Nat.le_of_lt h.p.lt)
theorem JX.kept {B gp gd : Nat} {s : JSt} {d : DSt} {rv : Value} {us : List Value} {w w' : World} {S : Nat → Prop} (h : JX B gp gd s d rv us w) (k : Kept S w w') (h1 : ∀ i, jS gp w i → ¬ S i) (h2 : ∀ i, dS gd rv us i → ¬ S i) : JX B gp gd s d rv us w' := by
  have hj := h.p.jkept k (h1 gp (.inl rfl))
  exact ⟨h.p.kept k h1, fun i hi => h.pb i ((hj i).1 hi), h.d.kept k h2, fun i hi => ⟨(h.db i hi).1, fun e => (h.db i hi).2 ((hj i).1 e)⟩⟩
theorem JX.same {B gp gd : Nat} {s : JSt} {d : DSt} {rv : Value} {us : List Value} {w w' : World} (h : JX B gp gd s d rv us w) (k : Same w w') : JX B gp gd s d rv us w' := h.kept k (fun _ _ h => h) (fun _ _ h => h)
theorem JX.pstep {B gp gd : Nat} {s s' : JSt} {d : DSt} {rv : Value} {us : List Value} {w w' : World} (h : JX B gp gd s d rv us w) (h' : JW gp s' w') (t : Turns gp w w') : JX B gp gd s' d rv us w' ∧ Kept (fun k => B ≤ k) w w' := by
  have hl := h.low
  have hj : ∀ k, k < w.heap.size → jS gp w' k → jS gp w k := fun k hk hi => by
    rcases hi with e | e
    · exact .inl e
    · exact t.row k hk e
  refine ⟨⟨h', fun k hk => ?_, h.d.kept t.kept (fun i hi => (h.db i hi).2), fun k hk => ⟨(h.db k hk).1, fun e => (h.db k hk).2 (hj k (h.d.lt hk) e)⟩⟩, t.kept.mono (fun k _ hk => h.pb k hk)⟩
  rcases Nat.lt_or_ge k w.heap.size with hlt | hge
  · exact h.pb k (hj k hlt hk)
  · exact Nat.le_trans hl hge
theorem JX.dstep {B gp gd : Nat} {s : JSt} {d d' : DSt} {rv rv' : Value} {us us' : List Value} {w w' : World} (h : JX B gp gd s d rv us w) (hd : DL gd d' w' rv' us') (hf : ∀ k, k < w.heap.size → dS gd rv' us' k → dS gd rv us k) (k : Kept (dS gd rv us) w w') : JX B gp gd s d' rv' us' w' ∧ Kept (fun k => B ≤ k) w w' := by
  have hl := h.low
  have hn : ∀ i, jS gp w i → ¬ dS gd rv us i := fun i hi hd => (h.db i hd).2 hi
  have hj := h.p.jkept k (hn gp (.inl rfl))
  refine ⟨⟨h.p.kept k hn, fun i hi => h.pb i ((hj i).1 hi), hd, fun i hi => ?_⟩, k.mono (fun i _ hi => (h.db i hi).1)⟩
  rcases Nat.lt_or_ge i w.heap.size with hlt | hge
  · have h1 := h.db i (hf i hlt hi)
    exact ⟨h1.1, fun e => h1.2 ((hj i).1 e)⟩
  · exact ⟨Nat.le_trans hl hge, fun e => by have := h.p.jlt ((hj i).1 e); omega⟩
/-- Behind a Fork: two of the program's, and the document's. -/
structure JT2 (B gp gq gd : Nat) (s t : JSt) (d : DSt) (rv : Value) (us : List Value) (w : World) : Prop where
  a : JX B gp gd s d rv us w
  b : JX B gq gd t d rv us w
  n : ∀ k, jS gp w k → ¬ jS gq w k
theorem JT2.step {B gp gq gd : Nat} {s s' t : JSt} {d : DSt} {rv : Value} {us : List Value} {w w' : World} (h : JT2 B gp gq gd s t d rv us w) (h' : JW gp s' w') (k : Turns gp w w') : JT2 B gp gq gd s' t d rv us w' ∧ Kept (fun k => B ≤ k) w w' := by
  obtain ⟨h1, h2⟩ := h.a.pstep h' k
  have hn : ∀ i, jS gq w i → ¬ jS gp w i := fun i hi e => h.n i e hi
  have hj := h.b.p.jkept k.kept (hn gq (.inl rfl))
  refine ⟨⟨h1, h.b.kept k.kept hn (fun i hi => (h.a.db i hi).2), fun i hi e => ?_⟩, h2⟩
  have e1 := (hj i).1 e
  have hlt := h.b.p.jlt e1
  rcases hi with hi | hi
  · exact h.n i (.inl hi) e1
  · exact h.n i (k.row i hlt hi) e1
theorem JX.fork {B gp gq gd : Nat} {s : JSt} {d : DSt} {rv : Value} {us : List Value} {w w' : World} (h : JX B gp gd s d rv us w) (hg : w.heap.size ≤ gq) (hq : JW gq s w') (k : Same w w') (hr : ∀ k, rowOf w' gq 4 = some k → w.heap.size ≤ k) : JT2 B gp gq gd s s d rv us w' := by
  have hl := h.low
  have h1 := h.same k
  have hy : ∀ i, jS gq w' i → w.heap.size ≤ i := fun i hi => by
    rcases hi with rfl | e
    · exact hg
    · exact hr i e
  have hj := h.p.jkept k (fun h => h)
  exact ⟨h1, ⟨hq, fun i hi => Nat.le_trans hl (hy i hi), h1.d, fun i hi => ⟨(h1.db i hi).1, fun e => by have := hy i e; have := h.d.lt hi; omega⟩⟩, fun i hi e => by have := hy i e; have := h.p.jlt ((hj i).1 hi); omega⟩
/-! ### Calls -/
theorem JX.pa {B gp gd : Nat} {s : JSt} {d : DSt} {rv : Value} {us : List Value} {w : World} (h : JX B gp gd s d rv us w) (rec : ByteArray) (hl : rec.size ≤ 140737488351232) :
    Calls Tryd.prog 11 #[.pointer (some ⟨gp, 0, none⟩), .string rec] w fun e w' => e = .returned (.int .i64 (s.appErr rec.size)) ∧ JW gp (s.app rec.data.toList) w' ∧ Turns gp w w' := by
  by_cases he : s.appErr rec.size = 0
  · rw [he]
    exact j_appendYes h.p rec he
  · refine (j_appendNo h.p rec (by omega) he).mono ?_
    rintro e w' ⟨rfl, k⟩
    have hs : s.app rec.data.toList = s := by
      unfold JSt.app
      rw [if_neg (show ¬ s.appErr rec.data.toList.length = 0 by rw [Array.length_toList]; exact he)]
    rw [hs]
    exact ⟨rfl, h.p.same k, Turns.same h.p.lt k⟩
def DSt.appJ (d : DSt) (s : JSt) (rec : ByteArray) : DSt := if s.appErr rec.size = 0 then d.app rec.data.toList else d
theorem Ag.appJ {d : DSt} {s : JSt} (h : Ag d s) (rec : ByteArray) : Ag (d.appJ s rec) (s.app rec.data.toList) := by
  have hl : rec.data.toList.length = rec.size := by rw [Array.length_toList]; rfl
  unfold DSt.appJ
  by_cases he : s.appErr rec.size = 0
  · rw [if_pos he]
    exact h.app _ (by rw [hl]; exact he)
  · rw [if_neg he]
    unfold JSt.app
    rw [if_neg (by rw [hl]; exact he)]
    exact h
theorem JX.da {B gp gd : Nat} {s1 : JSt} {d : DSt} {rv : Value} {us : List Value} {w : World} (h : JX B gp gd s1 d rv us w) {s : JSt} (ag : Ag d s) (rec : ByteArray) (hl : rec.size ≤ 140737488351232) :
    Calls Tryd.prog 12 #[.pointer (some ⟨gd, 0, none⟩), .string rec] w fun e w' => e = .returned (.int .i64 (s.appErr rec.size)) ∧ ∃ rv' us', JX B gp gd s1 (d.appJ s rec) rv' us' w' ∧ Kept (fun k => B ≤ k) w w' := by
  unfold DSt.appJ
  by_cases he : s.appErr rec.size = 0
  · rw [if_pos he, he]
    refine (appendD_yes h.d ag rec he).mono ?_
    rintro e w' ⟨rfl, ⟨rv', us', h1, h2⟩, k⟩
    exact ⟨rfl, rv', us', h.dstep h1 h2 k⟩
  · rw [if_neg he]
    refine (appendD_no h.d.dw ag rec hl he).mono ?_
    rintro e w' ⟨rfl, k⟩
    exact ⟨rfl, rv, us, h.same k, k.mono (fun _ _ h => h.elim)⟩
theorem JX.dt {B gp gd : Nat} {s1 : JSt} {d : DSt} {rv : Value} {us : List Value} {w : World} (h : JX B gp gd s1 d rv us w) {s : JSt} (ag : Ag d s) :
    Calls Tryd.prog 16 #[.pointer (some ⟨gd, 0, none⟩)] w fun e w' => ∃ v, e = .returned v ∧ DSecs w' v s.taken (s.secs s.many) ∧ JX B gp gd s1 d.take rv us w' ∧ Kept (fun k => k = gd) w w' := by
  refine (takeD_any h.d.dw ag).mono ?_
  rintro e w' ⟨v, rfl, h1, h2, hc, k⟩
  refine ⟨v, rfl, h1, ?_, k⟩
  have hk : Kept (dS gd rv us) w w' := k.mono (fun i _ e => .inl e)
  have hD : DL gd d.take w' rv us := by
    obtain ⟨rv', us', h3⟩ := h2.dl
    have hb := h3.box
    have hcc := blk_cell (j := 3) hb
    rw [hc, blk_cell (j := 3) h.d.box] at hcc
    obtain rfl : rv = rv' := by simpa using hcc
    exact ⟨hb, h.d.len, own_kept h.d.row k (fun i e1 e => own_apart h.d.row h.d.box (by decide) (by rw [e1, e])), fun i x u hx hu => own_kept (h.d.rooms i x u hx hu) k (fun j e1 e => own_apart (h.d.rooms i x u hx hu) h.d.box (by decide) (by rw [e1, e])), h.d.apart⟩
  exact (h.dstep hD (fun _ _ h => h) hk).1
end Go.Proofs.YtljbmpnpbjnbkaaDoor
