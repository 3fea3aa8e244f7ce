/- The lengths of all pieces, of no program. -/
import Derived.Test.YtdmekpokgnieeaaDoorCut4
namespace Go.Proofs.YtdmekpokgnieeaaDoor

theorem Shp.cut_le (c : Shp) (l : List UInt8) : c.cut l ≤ l.length := c.grow_le l 0 0
theorem Shp.cut_pos (c : Shp) (hc : c.Ok) {l : List UInt8} (h : l ≠ []) : 1 ≤ c.cut l := by
  cases l with
  | nil => exact absurd rfl h
  | cons x t => exact c.grow_pos hc x t
theorem Shp.cut_mx (c : Shp) (l : List UInt8) : c.cut l ≤ c.mx := by
  have h1 := c.grow_mx l 0 0 (Nat.zero_le _)
  have h2 := c.grow_len l 0 0
  unfold Shp.cut
  omega
def Shp.lensF (c : Shp) : Nat → List UInt8 → List Nat
  | 0, _ => []
  | f + 1, l => if l = [] then [] else c.cut l :: c.lensF f (l.drop (c.cut l))
def Shp.lens (c : Shp) (l : List UInt8) : List Nat := c.lensF l.length l
theorem Shp.lensF_nil (c : Shp) (f : Nat) : c.lensF f [] = [] := by cases f <;> simp [Shp.lensF]
theorem Shp.lensF_more (c : Shp) (hc : c.Ok) : ∀ (f g : Nat) (l : List UInt8), l.length ≤ f → l.length ≤ g → c.lensF f l = c.lensF g l
  | 0, g, l, h, _ => by
    have : l = [] := List.eq_nil_of_length_eq_zero (by omega)
    subst this
    rw [c.lensF_nil, c.lensF_nil]
  | f + 1, 0, l, _, h => by
    have : l = [] := List.eq_nil_of_length_eq_zero (by omega)
    subst this
    rw [c.lensF_nil, c.lensF_nil]
  | f + 1, g + 1, l, h1, h2 => by
    unfold Shp.lensF
    split
    · rfl
    · rename_i hl
      have hp := c.cut_pos hc hl
      have hd : (l.drop (c.cut l)).length ≤ l.length - 1 := by rw [List.length_drop]; omega
      rw [c.lensF_more hc f g (l.drop (c.cut l)) (by omega) (by omega)]
theorem Shp.lens_nil (c : Shp) : c.lens [] = [] := rfl
theorem Shp.lens_cons (c : Shp) (hc : c.Ok) {l : List UInt8} (h : l ≠ []) : c.lens l = c.cut l :: c.lens (l.drop (c.cut l)) := by
  have hp := c.cut_pos hc h
  have hpos : 0 < l.length := List.length_pos_iff.2 h
  obtain ⟨f, hf⟩ : ∃ f, l.length = f + 1 := ⟨l.length - 1, by omega⟩
  unfold Shp.lens
  rw [hf, Shp.lensF, if_neg h]
  rw [c.lensF_more hc f (l.drop (c.cut l)).length _ (by rw [List.length_drop]; omega) (Nat.le_refl _)]
theorem Shp.lens_len (c : Shp) (hc : c.Ok) : ∀ (n : Nat) (l : List UInt8), l.length ≤ n → (c.lens l).length ≤ l.length
  | 0, l, h => by
    have : l = [] := List.eq_nil_of_length_eq_zero (by omega)
    subst this
    simp [Shp.lens_nil]
  | n + 1, l, h => by
    by_cases hl : l = []
    · subst hl; simp [Shp.lens_nil]
    · have hp := c.cut_pos hc hl
      have hle := c.cut_le l
      have := c.lens_len hc n (l.drop (c.cut l)) (by rw [List.length_drop]; omega)
      rw [c.lens_cons hc hl, List.length_cons]
      rw [List.length_drop] at this
      omega
/-- Where each piece begins. -/
def places : Nat → List Nat → List (Nat × Nat)
  | _, [] => []
  | a, n :: t => (a, n) :: places (a + n) t
theorem places_snd : ∀ (a : Nat) (t : List Nat), (places a t).map (·.2) = t
  | _, [] => rfl
  | a, n :: t => by simp [places, places_snd (a + n) t]
theorem places_len (a : Nat) (t : List Nat) : (places a t).length = t.length := by
  have := congrArg List.length (places_snd a t)
  simpa using this
end Go.Proofs.YtdmekpokgnieeaaDoor
