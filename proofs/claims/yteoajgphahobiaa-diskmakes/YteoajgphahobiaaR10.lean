/- The program's Disk and the document's, apart. -/
import Derived.Test.YteoajgphahobiaaR9
namespace Go.Proofs.Yteoajgphahobiaa
open Go.RowKit
set_option linter.unusedVariables false
theorem RD.lt {A : Nat → Prop} {B n c g pb pc : Nat} {s : St} {w : World} (h : RD A B n c g pb pc s w) : g < w.heap.size ∧ pb < w.heap.size ∧ ∀ k, rowOf w g 3 = some k → k < w.heap.size := by
  obtain ⟨qv, qs, more, h1, h2, h3, h4, h5, h6, h7⟩ := h.ex
  exact ⟨blk_lt h1, (h.pr.2.lt pb rfl).2, fun k hk => by rw [rowOf_rc h1] at hk; exact (h4.lt k hk).2⟩
theorem RB.byteBlock {w : World} {u : Value} {l : List UInt8} (h : RB w u l) (k : Nat) (hk : u.ownBlock = some k) : ∃ cs, w.heap[k]? = some (.cells cs 5 (0, 0)) := by
  rcases h.2 with ⟨e, _⟩ | ⟨g, cap, cur, e, _, hg, _⟩
  · rw [e] at hk; cases hk
  · rw [e] at hk
    simp [Value.ownBlock] at hk
    subst hk
    exact ⟨_, hg⟩
theorem RD.kept {A : Nat → Prop} {B n c g pb pc : Nat} {s : St} {w w' : World} {S : Nat → Prop} (h : RD A B n c g pb pc s w) (k : Kept S w w') (hg : ¬ S g) (hp : ¬ S pb) (hq : ∀ i, rowOf w g 3 = some i → ¬ S i) (hb : ∀ i cs, w.heap[i]? = some (.cells cs 5 (0, 0)) → S i → A i) : RD A B n c g pb pc s w' := by
  obtain ⟨qv, qs, more, h1, h2, h3, h4, h5, h6, h7⟩ := h.ex
  refine ⟨⟨qv, qs, more, blk_kept k hg h1, h2, h3, own_kept h4 k (fun i hi => hq i (by rw [rowOf_rc h1]; exact hi)), fun j hj => ?_, h6, h7⟩, h.pr.kept k hp, h.ok, h.ap, h.lg, h.lp, h.n1, h.hn, h.c1, h.hc⟩
  obtain ⟨u, a, b, d, e, f⟩ := h5 j hj
  refine ⟨u, a, b, own_kept d k (fun i hi hs => ?_), e, f⟩
  obtain ⟨cs, hcs⟩ := RB.byteBlock d i hi
  exact h7 u (List.mem_of_getElem? b) i hi (hb i cs hcs hs)
theorem RD.more {A A' : Nat → Prop} {B n c g pb pc : Nat} {s : St} {w : World} (h : RD A B n c g pb pc s w) (hp : A' pb) (hA : ∀ k, A' k → A k ∨ w.heap.size ≤ k) : RD A' B n c g pb pc s w := by
  obtain ⟨qv, qs, more, h1, h2, h3, h4, h5, h6, h7⟩ := h.ex
  refine ⟨⟨qv, qs, more, h1, h2, h3, h4, h5, h6, fun u hu k hk ha => ?_⟩, h.pr, h.ok, hp, h.lg, h.lp, h.n1, h.hn, h.c1, h.hc⟩
  rcases hA k ha with ha | ha
  · exact h7 u hu k hk ha
  · obtain ⟨i, hi, rfl⟩ := List.getElem_of_mem hu
    have hql : qs.length = s.pend.length * 2 := h4.1
    obtain ⟨v, a, b, o, _⟩ := h5 (i / 2) (by omega)
    rcases Nat.mod_two_eq_zero_or_one i with hm | hm
    · rw [show i / 2 * 2 = i by omega, List.getElem?_eq_getElem hi] at a
      rw [Option.some.inj a] at hk
      cases hk
    · rw [show i / 2 * 2 + 1 = i by omega, List.getElem?_eq_getElem hi] at b
      rw [Option.some.inj b] at hk
      have := (World.ownsRow.lt o k hk).2
      omega
/-- Both, apart. -/
structure Pair (A : Nat → Prop) (B n c g pb pc rb rc x xb xc : Nat) (s1 s2 : St) (w : World) : Prop where
  d : ZD A B n c g pb pc rb rc s1 w
  r : RD A B n c x xb xc s2 w
  qq : ∀ k, rowOf w g 3 = some k → rowOf w x 3 ≠ some k
  hA : ∀ k, A k → k < w.heap.size
theorem Pair.same {A : Nat → Prop} {B n c g pb pc rb rc x xb xc : Nat} {s1 s2 : St} {w w' : World} (h : Pair A B n c g pb pc rb rc x xb xc s1 s2 w) (k : Same w w') : Pair A B n c g pb pc rb rc x xb xc s1 s2 w' :=
  ⟨h.d.same k, h.r.same k, fun i a b => h.qq i (by rw [← rowOf_same h.d.lt.1 k]; exact a) (by rw [← rowOf_same h.r.lt.1 k]; exact b), fun i hi => Nat.lt_of_lt_of_le (h.hA i hi) k.size⟩
/-- What the program's Disk may write is not the document's. -/
theorem Pair.outD {A : Nat → Prop} {B n c g pb pc rb rc x xb xc : Nat} {s1 s2 : St} {w : World} (h : Pair A B n c g pb pc rb rc x xb xc s1 s2 w) :
    ¬ dS g pb rb w x ∧ ¬ dS g pb rb w xb ∧ (∀ k, rowOf w x 3 = some k → ¬ dS g pb rb w k) ∧ ∀ i cs, w.heap[i]? = some (.cells cs 5 (0, 0)) → ¬ dS g pb rb w i := by
  obtain ⟨qv, qs, ps, rs, h1, h5, h6, h7, h8, h9, h10, h11, h12, h13, h14⟩ := h.d.ex
  obtain ⟨rv, rq, more, i1, i2, i3, i4, i5, i6, i7⟩ := h.r.ex
  have hby : ∀ i cs, w.heap[i]? = some (.cells cs 5 (0, 0)) → ¬ dS g pb rb w i := fun i cs hi hs => by
    rcases hs with e | e | e | e
    · rw [e, h1] at hi; simp at hi
    · exact own_apart h5 hi (by decide) (by rw [e]; rfl)
    · exact own_apart h7 hi (by decide) (by rw [e]; rfl)
    · rw [rowOf_dp h1] at e; exact own_apart h9 hi (by decide) e
  refine ⟨?_, ?_, ?_, hby⟩
  · rintro (e | e | e | e)
    · rw [e, h1] at i1; simp at i1
    · exact own_apart h5 i1 (by decide) (by rw [e]; rfl)
    · exact own_apart h7 i1 (by decide) (by rw [e]; rfl)
    · rw [rowOf_dp h1] at e; exact own_apart h9 i1 (by decide) e
  · obtain ⟨cur, hg, _⟩ := h.r.pr.open
    exact hby xb cur hg
  · intro k hk
    have hk2 := hk
    rw [rowOf_rc i1] at hk2
    rintro (e | e | e | e)
    · exact own_apart i4 h1 (by decide) (by rw [hk2, e])
    · rcases own_rows i4 h5 (by decide) with hx | hx
      · rw [hk2] at hx; cases hx
      · exact hx (by rw [hk2, e]; rfl)
    · rcases own_rows i4 h7 (by decide) with hx | hx
      · rw [hk2] at hx; cases hx
      · exact hx (by rw [hk2, e]; rfl)
    · exact h.qq k e hk
theorem Pair.outR {A : Nat → Prop} {B n c g pb pc rb rc x xb xc : Nat} {s1 s2 : St} {w : World} (h : Pair A B n c g pb pc rb rc x xb xc s1 s2 w) :
    ¬ rS x xb w g ∧ ¬ rS x xb w pb ∧ ¬ rS x xb w rb ∧ (∀ k, rowOf w g 3 = some k → ¬ rS x xb w k) ∧ ∀ i cs, w.heap[i]? = some (.cells cs 5 (0, 0)) → rS x xb w i → A i := by
  obtain ⟨qv, qs, ps, rs, h1, h5, h6, h7, h8, h9, h10, h11, h12, h13, h14⟩ := h.d.ex
  obtain ⟨rv, rq, more, i1, i2, i3, i4, i5, i6, i7⟩ := h.r.ex
  obtain ⟨cur, hxb, _⟩ := h.r.pr.open
  refine ⟨?_, ?_, ?_, ?_, ?_⟩
  · rintro (e | e | e)
    · rw [← e, h1] at i1; simp at i1
    · rw [← e, h1] at hxb; simp at hxb
    · rw [rowOf_rc i1] at e; exact own_apart i4 h1 (by decide) e
  · rintro (e | e | e)
    · exact own_apart h5 i1 (by decide) (by rw [← e]; rfl)
    · exact own_apart h5 hxb (by decide) (by rw [← e]; rfl)
    · rw [rowOf_rc i1] at e
      rcases own_rows h5 i4 (by decide) with hx | hx
      · cases hx
      · exact hx (by rw [e]; rfl)
  · rintro (e | e | e)
    · exact own_apart h7 i1 (by decide) (by rw [← e]; rfl)
    · exact own_apart h7 hxb (by decide) (by rw [← e]; rfl)
    · rw [rowOf_rc i1] at e
      rcases own_rows h7 i4 (by decide) with hx | hx
      · cases hx
      · exact hx (by rw [e]; rfl)
  · intro k hk
    have hk2 := hk
    rw [rowOf_dp h1] at hk2
    rintro (e | e | e)
    · exact own_apart h9 i1 (by decide) (by rw [hk2, e])
    · exact own_apart h9 hxb (by decide) (by rw [hk2, e])
    · exact h.qq k hk e
  · intro i cs hi hs
    rcases hs with e | e | e
    · rw [e, i1] at hi; simp at hi
    · rw [e]; exact h.r.ap
    · rw [rowOf_rc i1] at e; exact absurd e (own_apart i4 hi (by decide))
theorem Pair.left {A : Nat → Prop} {B n c g pb pc rb rc x xb xc : Nat} {s1 s2 s1' : St} {w w' : World} (h : Pair A B n c g pb pc rb rc x xb xc s1 s2 w) (d : ZD A B n c g pb pc rb rc s1' w') (f : DF g pb rb w w') : Pair A B n c g pb pc rb rc x xb xc s1' s2 w' := by
  obtain ⟨o1, o2, o3, o4⟩ := h.outD
  refine ⟨d, h.r.kept f.kept o1 o2 o3 (fun i cs hi hs => absurd hs (o4 i cs hi)), fun i a b => ?_, fun i hi => Nat.lt_of_lt_of_le (h.hA i hi) f.kept.size⟩
  have e : rowOf w' x 3 = rowOf w x 3 := by
    unfold rowOf
    rw [World.cell?_of_block (f.kept.block x h.r.lt.1 o1)]
  rw [e] at b
  exact h.qq i (f.row i (h.r.lt.2.2 i b) a) b
theorem Pair.right {A : Nat → Prop} {B n c g pb pc rb rc x xb xc : Nat} {s1 s2 s2' : St} {w w' : World} (h : Pair A B n c g pb pc rb rc x xb xc s1 s2 w) (r : RD A B n c x xb xc s2' w') (f : RF x xb w w') : Pair A B n c g pb pc rb rc x xb xc s1 s2' w' := by
  obtain ⟨o1, o2, o3, o4, o5⟩ := h.outR
  refine ⟨h.d.kept f.kept o1 o2 o3 o4 o5, r, fun i a b => ?_, fun i hi => Nat.lt_of_lt_of_le (h.hA i hi) f.kept.size⟩
  have e : rowOf w' g 3 = rowOf w g 3 := by
    unfold rowOf
    rw [World.cell?_of_block (f.kept.block g h.d.lt.1 o1)]
  rw [e] at a
  exact h.qq i a (f.row i (h.d.lt.2.2.2 i a) b)
/-- Further blocks that none of their bytes lies in. -/
theorem Pair.more {A A' : Nat → Prop} {B n c g pb pc rb rc x xb xc : Nat} {s1 s2 : St} {w : World} (h : Pair A B n c g pb pc rb rc x xb xc s1 s2 w) (hp : A' xb) (hA : ∀ k, A' k → A k) : Pair A' B n c g pb pc rb rc x xb xc s1 s2 w :=
  ⟨h.d.more (fun k hk => Or.inl (hA k hk)), h.r.more hp (fun k hk => Or.inl (hA k hk)), h.qq, fun k hk => h.hA k (hA k hk)⟩
/-- A block that was made since is written to by none but its maker. -/
theorem Pair.fresh {A : Nat → Prop} {B n c g pb pc rb rc x xb xc q : Nat} {s1 s2 : St} {w w' : World} (h : Pair A B n c g pb pc rb rc x xb xc s1 s2 w) (k : Same w w') (hq : w.heap.size ≤ q) (hq2 : q < w'.heap.size) : Pair (fun i => A i ∨ i = q) B n c g pb pc rb rc x xb xc s1 s2 w' := by
  have h2 := h.same k
  exact ⟨(h.d.more (A' := fun i => A i ∨ i = q) (fun i hi => hi.imp id (fun e => by rw [e]; exact hq))).same k, (h.r.more (A' := fun i => A i ∨ i = q) (Or.inl h.r.ap) (fun i hi => hi.imp id (fun e => by rw [e]; exact hq))).same k, h2.qq, fun i hi => hi.elim (h2.hA i) (fun e => by rw [e]; exact hq2)⟩
/-- The law writes to a block of bytes that it made. -/
theorem Pair.bump {A : Nat → Prop} {B n c g pb pc rb rc x xb xc q : Nat} {s1 s2 : St} {w w' : World} {cs : Array Value} (h : Pair A B n c g pb pc rb rc x xb xc s1 s2 w) (k : Kept (fun i => i = q) w w') (hq : A q) (hb : w.heap[q]? = some (.cells cs 5 (0, 0))) (hx : q ≠ xb) : Pair A B n c g pb pc rb rc x xb xc s1 s2 w' := by
  obtain ⟨qv, qs, ps, rs, h1, h5, h6, h7, h8, h9, h10, h11, h12, h13, h14⟩ := h.d.ex
  obtain ⟨rv, rq, more, i1, i2, i3, i4, i5, i6, i7⟩ := h.r.ex
  have ng : ¬ g = q := fun e => by rw [← e, h1] at hb; simp at hb
  have nx : ¬ x = q := fun e => by rw [← e, i1] at hb; simp at hb
  have np : ¬ pb = q := fun e => own_apart h5 hb (by decide) (by rw [← e]; rfl)
  have nr : ¬ rb = q := fun e => own_apart h7 hb (by decide) (by rw [← e]; rfl)
  have e1 : rowOf w' g 3 = rowOf w g 3 := by unfold rowOf; rw [World.cell?_of_block (k.block g h.d.lt.1 ng)]
  have e2 : rowOf w' x 3 = rowOf w x 3 := by unfold rowOf; rw [World.cell?_of_block (k.block x h.r.lt.1 nx)]
  exact ⟨h.d.kept k ng np nr (fun i hi e => by rw [rowOf_dp h1] at hi; exact own_apart h9 hb (by decide) (by rw [hi, e])) (fun i _ _ e => by rw [e]; exact hq), h.r.kept k nx (fun e => hx e.symm) (fun i hi e => by rw [rowOf_rc i1] at hi; exact own_apart i4 hb (by decide) (by rw [hi, e])) (fun i _ _ e => by rw [e]; exact hq), fun i a b => h.qq i (by rw [← e1]; exact a) (by rw [← e2]; exact b), fun i hi => Nat.lt_of_lt_of_le (h.hA i hi) k.size⟩
end Go.Proofs.Yteoajgphahobiaa
