/- Pieces told as bytes are written, pure: what is sure of bytes, and what more bytes make of it (for CutPieces). -/
import Derived.Test.YtdmekpokgnieeaaDoorAg1
namespace Go.Proofs.YtdmekpokgnieeaaDoor
set_option linter.unusedVariables false
/-- A piece that is not cut yet grows on. -/
theorem grow_append (c : Shp) (b : List UInt8) : ∀ (r : List UInt8) (l0 h0 len h : Nat), c.grow l0 h0 r = (r.length, false, len, h) → c.grow l0 h0 (r ++ b) = (r.length + (c.grow len h b).1, (c.grow len h b).2)
  | [], l0, h0, len, h, e => by
    simp only [Shp.grow, List.length_nil, Prod.mk.injEq] at e
    obtain ⟨_, _, rfl, rfl⟩ := e
    simp
  | x :: r, l0, h0, len, h, e => by
    rw [List.cons_append]
    obtain ⟨q, hq⟩ : ∃ q, c.grow len h b = q := ⟨_, rfl⟩
    rw [hq]
    unfold Shp.grow at e ⊢
    split at e
    · simp at e
    · split at e
      · rename_i h1 h2
        rw [if_neg h1, if_pos h2]
        simp only [Prod.mk.injEq, List.length_cons, Nat.add_right_cancel_iff] at e
        have := grow_append c b r (l0 + 1) h0 len h (by rw [← e.1]; exact Prod.ext rfl e.2)
        show ((c.grow (l0 + 1) h0 (r ++ b)).1 + 1, (c.grow (l0 + 1) h0 (r ++ b)).2) = _
        rw [this, hq]
        refine Prod.ext ?_ rfl
        show r.length + q.1 + 1 = r.length + 1 + q.1
        omega
      · split at e
        · simp at e
        · rename_i h1 h2 h3
          rw [if_neg h1, if_neg h2, if_neg h3]
          simp only [Prod.mk.injEq, List.length_cons, Nat.add_right_cancel_iff] at e
          have := grow_append c b r (l0 + 1) (c.hash h0 x) len h (by rw [← e.1]; exact Prod.ext rfl e.2)
          show ((c.grow (l0 + 1) (c.hash h0 x) (r ++ b)).1 + 1, (c.grow (l0 + 1) (c.hash h0 x) (r ++ b)).2) = _
          rw [this, hq]
          refine Prod.ext ?_ rfl
          show r.length + q.1 + 1 = r.length + 1 + q.1
          omega
/-- A cut that is sure stays where it is. -/
theorem grow_more (c : Shp) (b : List UInt8) : ∀ (l : List UInt8) (len h : Nat), (c.grow len h l).2.1 = true → c.grow len h (l ++ b) = c.grow len h l
  | [], len, h, e => by
    have hm : len = c.mx := by simpa [Shp.grow] using e
    cases b with
    | nil => rfl
    | cons x b => simp [Shp.grow, hm]
  | x :: l, len, h, e => by
    rw [List.cons_append]
    unfold Shp.grow at e ⊢
    split
    · rfl
    · rename_i h1
      rw [if_neg h1] at e
      split
      · rename_i h2
        rw [if_pos h2] at e
        rw [grow_more c b l (len + 1) h e]
      · rename_i h2
        rw [if_neg h2] at e
        split
        · rfl
        · rename_i h3
          rw [if_neg h3] at e
          rw [grow_more c b l (len + 1) (c.hash h x) e]
/-- The pieces that are sure of bytes, and the bytes behind them. -/
def Shp.sureF (c : Shp) : Nat → List UInt8 → List Nat × List UInt8
  | 0, l => ([], l)
  | f + 1, l => if l = [] then ([], []) else if (c.grow 0 0 l).2.1 = true then let r := c.sureF f (l.drop (c.cut l)); (c.cut l :: r.1, r.2) else ([], l)
def Shp.sure (c : Shp) (l : List UInt8) : List Nat × List UInt8 := c.sureF l.length l
theorem Shp.sureF_more (c : Shp) (hc : c.Ok) : ∀ (f g : Nat) (l : List UInt8), l.length ≤ f → l.length ≤ g → c.sureF f l = c.sureF g l
  | 0, 0, l, _, _ => rfl
  | 0, g + 1, l, h, _ => by
    obtain rfl : l = [] := List.eq_nil_of_length_eq_zero (by omega)
    simp [Shp.sureF]
  | f + 1, 0, l, _, h => by
    obtain rfl : l = [] := List.eq_nil_of_length_eq_zero (by omega)
    simp [Shp.sureF]
  | f + 1, g + 1, l, h1, h2 => by
    by_cases hl : l = []
    · subst hl
      simp [Shp.sureF]
    · have hp := c.cut_pos hc hl
      have hd : (l.drop (c.cut l)).length = l.length - c.cut l := List.length_drop
      have hpl : 0 < l.length := List.length_pos_iff.2 hl
      simp only [Shp.sureF, if_neg hl, c.sureF_more hc f g (l.drop (c.cut l)) (by omega) (by omega)]
theorem Shp.sure_nil (c : Shp) : c.sure [] = ([], []) := rfl
theorem Shp.sure_yes (c : Shp) (hc : c.Ok) {l : List UInt8} (hl : l ≠ []) (h : (c.grow 0 0 l).2.1 = true) : c.sure l = (c.cut l :: (c.sure (l.drop (c.cut l))).1, (c.sure (l.drop (c.cut l))).2) := by
  have hpl : 0 < l.length := List.length_pos_iff.2 hl
  have hp := c.cut_pos hc hl
  have hd : (l.drop (c.cut l)).length = l.length - c.cut l := List.length_drop
  obtain ⟨f, hf⟩ : ∃ f, l.length = f + 1 := ⟨l.length - 1, by omega⟩
  unfold Shp.sure
  rw [hf, Shp.sureF, if_neg hl, if_pos h]
  simp only [c.sureF_more hc f (l.drop (c.cut l)).length (l.drop (c.cut l)) (by omega) (Nat.le_refl _)]
theorem Shp.sure_no (c : Shp) {l : List UInt8} (h : (c.grow 0 0 l).2.1 = false) : c.sure l = ([], l) := by
  cases l with
  | nil => rfl
  | cons x l => simp [Shp.sure, Shp.sureF, h]
/-- What is behind the sure pieces is cut as if nothing had been ahead of it, also with more bytes. -/
theorem Shp.lens_sure (c : Shp) (hc : c.Ok) (b : List UInt8) : ∀ (n : Nat) (l : List UInt8), l.length ≤ n → c.lens (l ++ b) = (c.sure l).1 ++ c.lens ((c.sure l).2 ++ b)
  | 0, l, h => by
    obtain rfl : l = [] := List.eq_nil_of_length_eq_zero (by omega)
    simp [Shp.sure_nil]
  | n + 1, l, h => by
    by_cases hl : l = []
    · subst hl
      simp [Shp.sure_nil]
    · by_cases hs : (c.grow 0 0 l).2.1 = true
      · have hp := c.cut_pos hc hl
        have hle := c.cut_le l
        have hg := grow_more c b l 0 0 hs
        have hcut : c.cut (l ++ b) = c.cut l := by unfold Shp.cut; rw [hg]
        have hne : l ++ b ≠ [] := by simp [hl]
        rw [c.lens_cons hc hne, hcut, c.sure_yes hc hl hs, List.drop_append_of_le_length hle, c.lens_sure hc b n (l.drop (c.cut l)) (by rw [List.length_drop]; omega)]
        simp
      · rw [c.sure_no (by simpa using hs)]
        simp
/-- What is left behind the sure pieces is not cut yet. -/
theorem Shp.sure_rest (c : Shp) (hc : c.Ok) : ∀ (n : Nat) (l : List UInt8), l.length ≤ n → (c.grow 0 0 (c.sure l).2).2.1 = false ∧ (c.sure l).2.length ≤ l.length
  | 0, l, h => by
    obtain rfl : l = [] := List.eq_nil_of_length_eq_zero (by omega)
    have := hc.no_ge
    have := hc.mx1
    simp [Shp.sure_nil, Shp.grow]
    omega
  | n + 1, l, h => by
    by_cases hl : l = []
    · subst hl
      have := hc.no_ge
      have := hc.mx1
      simp [Shp.sure_nil, Shp.grow]
      omega
    · by_cases hs : (c.grow 0 0 l).2.1 = true
      · have hp := c.cut_pos hc hl
        rw [c.sure_yes hc hl hs]
        have := c.sure_rest hc n (l.drop (c.cut l)) (by rw [List.length_drop]; omega)
        rw [List.length_drop] at this
        exact ⟨this.1, Nat.le_trans this.2 (Nat.sub_le _ _)⟩
      · rw [c.sure_no (by simpa using hs)]
        exact ⟨by simpa using hs, Nat.le_refl _⟩
end Go.Proofs.YtdmekpokgnieeaaDoor
