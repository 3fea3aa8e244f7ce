/- A table of descriptors as a plain value: which inode and flags each of its 64 places has; how often an inode is open; and its cells in memory. -/
import Derived.Test.YtiffkcffcjembaaChecked
import Derived.Test.YtiffkcffcjembaaBase
import Derived.Maps.OwnSet
namespace Go.Proofs.Ytiffkcffcjembaa
open Go.RowKit Go.Maps
set_option linter.unusedVariables false

abbrev FT := Nat → Int × Int
def FT.set (f : FT) (i : Nat) (v : Int × Int) : FT := fun j => if j = i then v else f j
theorem FT.set_same (f : FT) (i : Nat) (v : Int × Int) : (f.set i v) i = v := by simp [FT.set]
theorem FT.set_other (f : FT) {i j : Nat} (v : Int × Int) (h : j ≠ i) : (f.set i v) j = f j := by simp [FT.set, h]
/-- How many of the first k places are open on x. -/
def cn (f : FT) (x : Int) : Nat → Nat
  | 0 => 0
  | k + 1 => cn f x k + (if x ≠ 0 ∧ (f k).1 = x then 1 else 0)
theorem cn_le (f : FT) (x : Int) : ∀ k, cn f x k ≤ k
  | 0 => Nat.le_refl _
  | k + 1 => by have := cn_le f x k; simp only [cn]; split <;> omega
theorem cn_zero (f : FT) : ∀ k, cn f 0 k = 0
  | 0 => rfl
  | k + 1 => by simp [cn, cn_zero f k]
theorem cn_out (f : FT) (i : Nat) (v : Int × Int) (x : Int) : ∀ k, k ≤ i → cn (f.set i v) x k = cn f x k
  | 0, _ => rfl
  | k + 1, h => by simp only [cn]; rw [cn_out f i v x k (by omega), FT.set_other _ _ (by omega)]
/-- One place is turned. -/
theorem cn_set (f : FT) (i : Nat) (v : Int × Int) (x : Int) : ∀ k, i < k → cn (f.set i v) x k + (if x ≠ 0 ∧ (f i).1 = x then 1 else 0) = cn f x k + (if x ≠ 0 ∧ v.1 = x then 1 else 0)
  | 0, h => by omega
  | k + 1, h => by
    simp only [cn]
    by_cases e : i = k
    · subst e
      rw [cn_out f i v x i (Nat.le_refl _), FT.set_same]
      omega
    · have := cn_set f i v x k (by omega)
      rw [FT.set_other _ _ (fun h => e h.symm)]
      omega
theorem cn_pos (f : FT) (x : Int) (hx : x ≠ 0) : ∀ k i, i < k → (f i).1 = x → 0 < cn f x k
  | 0, i, h, _ => by omega
  | k + 1, i, h, hi => by
    simp only [cn]
    by_cases e : i = k
    · subst e
      rw [if_pos ⟨hx, hi⟩]; omega
    · have := cn_pos f x hx k i (by omega) hi
      omega
theorem cn_ex (f : FT) (x : Int) : ∀ k, 0 < cn f x k → x ≠ 0 ∧ ∃ i, i < k ∧ (f i).1 = x
  | 0, h => by simp [cn] at h
  | k + 1, h => by
    simp only [cn] at h
    by_cases e : x ≠ 0 ∧ (f k).1 = x
    · exact ⟨e.1, k, by omega, e.2⟩
    · rw [if_neg e] at h
      obtain ⟨hx, i, hi, hf⟩ := cn_ex f x k (by omega)
      exact ⟨hx, i, by omega, hf⟩

/-- A place's three cells. -/
def hC (f : FT) (i : Nat) : List Value := [.int .i64 (if (f i).1 = 0 then 0 else (i : Int)), .int .i64 (f i).1, .int .i64 (f i).2]
def sC (f : FT) : Nat → List Value
  | 0 => []
  | k + 1 => sC f k ++ hC f k
theorem sC_len (f : FT) : ∀ k, (sC f k).length = 3 * k
  | 0 => rfl
  | k + 1 => by simp [sC, sC_len f k, hC]; omega
theorem sC_at (f : FT) (i j : Nat) (hj : j < 3) : ∀ k, i < k → (sC f k)[i * 3 + j]? = (hC f i)[j]?
  | 0, h => by omega
  | k + 1, h => by
    simp only [sC]
    by_cases e : i = k
    · subst e
      rw [List.getElem?_append_right (by rw [sC_len]; omega), sC_len]
      congr 1; omega
    · rw [List.getElem?_append_left (by rw [sC_len]; omega)]
      exact sC_at f i j hj k (by omega)
def TC (f : FT) (bm : Nat) : Array Value := (sC f 64 ++ [Value.map (some bm)]).toArray
theorem TC_size (f : FT) (bm : Nat) : (TC f bm).size = 193 := by simp [TC, sC_len]
theorem TC_at (f : FT) (bm i j : Nat) (hi : i < 64) (hj : j < 3) : (TC f bm)[i * 3 + j]? = (hC f i)[j]? := by
  unfold TC
  rw [List.getElem?_toArray, List.getElem?_append_left (by rw [sC_len]; omega)]
  exact sC_at f i j hj 64 hi
theorem TC_map (f : FT) (bm : Nat) : (TC f bm)[192]? = some (.map (some bm)) := by
  unfold TC
  rw [List.getElem?_toArray, List.getElem?_append_right (by rw [sC_len]; omega), sC_len]
  rfl
theorem TC_one (f : FT) (bm : Nat) : ∀ n, n < 193 → ∃ v, (TC f bm)[n]? = some v := fun n hn => ⟨_, Array.getElem?_eq_getElem (by rw [TC_size]; exact hn)⟩
/-- Two such rows are one where all places are. -/
theorem TC_ext {cs : Array Value} {f : FT} {bm : Nat} (hs : cs.size = 193) (h : ∀ i j, i < 64 → j < 3 → cs[i * 3 + j]? = (hC f i)[j]?) (hm : cs[192]? = some (.map (some bm))) : cs = TC f bm := by
  apply Array.ext_getElem?
  intro n
  by_cases hn : n < 192
  · have e : n = (n / 3) * 3 + n % 3 := by omega
    rw [e, h _ _ (by omega) (by omega), TC_at _ _ _ _ (by omega) (by omega)]
  · by_cases h2 : n = 192
    · subst h2; rw [hm, TC_map]
    · rw [Array.getElem?_eq_none (by omega), Array.getElem?_eq_none (by rw [TC_size]; omega)]
/-- A place's three cells written anew. -/
theorem TC_set (f : FT) (bm i : Nat) (hi : i < 64) (a b c : Int) (ha : a = if b = 0 then 0 else (i : Int)) :
    (((TC f bm).setIfInBounds (i * 3) (.int .i64 a)).setIfInBounds (i * 3 + 1) (.int .i64 b)).setIfInBounds (i * 3 + 2) (.int .i64 c) = TC (f.set i (b, c)) bm := by
  apply TC_ext
  · simp [TC_size]
  · intro k j hk hj
    by_cases e : k = i
    · subst e
      have s := TC_size f bm
      unfold hC
      rw [FT.set_same]
      have hj3 : j = 0 ∨ j = 1 ∨ j = 2 := by omega
      rcases hj3 with rfl | rfl | rfl
      · rw [Array.getElem?_setIfInBounds_ne (by omega), Array.getElem?_setIfInBounds_ne (by omega), Nat.add_zero, Array.getElem?_setIfInBounds_self_of_lt (by omega), ha]
        rfl
      · rw [Array.getElem?_setIfInBounds_ne (by omega), Array.getElem?_setIfInBounds_self_of_lt (by simp; omega)]
        rfl
      · rw [Array.getElem?_setIfInBounds_self_of_lt (by simp; omega)]
        rfl
    · rw [Array.getElem?_setIfInBounds_ne (by omega), Array.getElem?_setIfInBounds_ne (by omega), Array.getElem?_setIfInBounds_ne (by omega), TC_at _ _ _ _ hk hj]
      unfold hC
      rw [FT.set_other _ _ e]
  · rw [Array.getElem?_setIfInBounds_ne (by omega), Array.getElem?_setIfInBounds_ne (by omega), Array.getElem?_setIfInBounds_ne (by omega), TC_map]
abbrev f0 : FT := fun _ => (0, 0)

theorem law3 : Keyed Try.prog 3 := int_keyed Try.underlying3
theorem zero3 (w : World) : (zeroValue 3).run Try.prog w = .ok (.int .i64 0) w := by kernel_rfl
/-- The map of counts: what it tells of each key. -/
structure Cnt (D : DataW Unit) (f : FT) : Prop where
  at_ : ∀ x : Int, D.atKey (.int .i64 x) (.lit (.int .i64 0)) = .lit (.int .i64 (cn f x 64))
  has : ∀ x : Int, Maps.has D (.int .i64 x) = decide (0 < cn f x 64)
  isMap : IsMap D
/-- A table's places are right: each is free and bare, or open on a number that can be. -/
structure Goo (f : FT) : Prop where
  ok : ∀ i, i < 64 → ((f i).1 = 0 ∧ (f i).2 = 0) ∨ (1 ≤ (f i).1 ∧ (f i).1 ≤ 9223372036854775807 ∧ -9223372036854775808 ≤ (f i).2 ∧ (f i).2 ≤ 9223372036854775807)
theorem Goo.zero : Goo f0 := ⟨fun _ _ => .inl ⟨rfl, rfl⟩⟩
theorem Goo.set {f : FT} (h : Goo f) (i : Nat) {v : Int × Int} (hv : (v.1 = 0 ∧ v.2 = 0) ∨ (1 ≤ v.1 ∧ v.1 ≤ 9223372036854775807 ∧ -9223372036854775808 ≤ v.2 ∧ v.2 ≤ 9223372036854775807)) : Goo (f.set i v) :=
  ⟨fun j hj => by by_cases e : j = i
                  · subst e; rw [FT.set_same]; exact hv
                  · rw [FT.set_other _ _ e]; exact h.ok j hj⟩
/-- A Table that New gave, in memory: its block, its map's. -/
structure TB (w : World) (g bm : Nat) (f : FT) (n : Nat) : Prop where
  blk : w.heap[g]? = some (.cells (TC f bm) 48 (0, 0))
  ex : ∃ D, w.ownsMap Try.prog 3 (plainElem Try.prog 3) bm n D ∧ Cnt D f
  goo : Goo f
/-- Which blocks a table's calls may turn: its own, and its map's. -/
abbrev TS (g bm : Nat) : Nat → Prop := fun k => k = g ∨ k = bm
theorem TB.ne {w : World} {g bm n : Nat} {f : FT} (h : TB w g bm f n) : bm ≠ g := fun e => by
  subst e
  obtain ⟨D, ⟨es, clock, hb2, _⟩, _⟩ := h.ex
  rw [h.blk] at hb2
  cases hb2
theorem Cnt.zero : Cnt (.map []) f0 := by
  refine ⟨fun x => ?_, fun x => ?_, isMap_empty⟩
  · have : ∀ k, cn f0 x k = 0 := fun k => by
      induction k with
      | zero => rfl
      | succ k ih => simp [cn, ih]; intro h h2; exact h h2.symm
    rw [this]; rfl
  · have : ∀ k, cn f0 x k = 0 := fun k => by
      induction k with
      | zero => rfl
      | succ k ih => simp [cn, ih]; intro h h2; exact h h2.symm
    rw [this]; rfl
theorem lit_ne {x y : Int} (h : x ≠ y) : (Lit.int .i64 x) ≠ (Lit.int .i64 y) := fun e => h (by cases e; rfl)
/-- A free place i is opened on x. -/
theorem Cnt.opened {D : DataW Unit} {f : FT} (h : Cnt D f) {i : Nat} (hi : i < 64) (hf : (f i).1 = 0) {x : Int} (hx : x ≠ 0) (fl : Int) (c : Int) (hc : c = (cn f x 64 : Int) + 1) : Cnt (D.put (.int .i64 x) (.lit (.int .i64 c))) (f.set i (x, fl)) := by
  have hs := fun y => cn_set f i (x, fl) y 64 hi
  refine ⟨fun y => ?_, fun y => ?_, h.isMap.put _ _⟩
  · by_cases e : y = x
    · subst e
      rw [atKey_put_same h.isMap (k := .int .i64 _) trivial, hc]
      have := hs y
      rw [if_neg (by rintro ⟨a, b⟩; exact a (by rw [← b, hf])), if_pos ⟨hx, rfl⟩] at this
      rw [show cn (f.set i (y, fl)) y 64 = cn f y 64 + 1 by omega]; rfl
    · rw [atKey_put_other (lit_ne e), h.at_]
      have := hs y
      rw [if_neg (by rintro ⟨a, b⟩; exact a (by rw [← b, hf])), if_neg (by rintro ⟨_, b⟩; exact e b.symm)] at this
      rw [show cn (f.set i (x, fl)) y 64 = cn f y 64 by omega]
  · by_cases e : y = x
    · subst e
      rw [has_put_same h.isMap (k := .int .i64 _) trivial]
      have := hs y
      rw [if_neg (by rintro ⟨a, b⟩; exact a (by rw [← b, hf])), if_pos ⟨hx, rfl⟩] at this
      rw [decide_eq_true (by omega)]
    · rw [has_put_other (lit_ne e), h.has]
      have := hs y
      rw [if_neg (by rintro ⟨a, b⟩; exact a (by rw [← b, hf])), if_neg (by rintro ⟨_, b⟩; exact e b.symm)] at this
      rw [show cn (f.set i (x, fl)) y 64 = cn f y 64 by omega]
/-- An open place is closed: others are open on the same. -/
theorem Cnt.closed {D : DataW Unit} {f : FT} (h : Cnt D f) {i : Nat} (hi : i < 64) {x : Int} (hf : (f i).1 = x) (hx : x ≠ 0) (c : Int) (hc : c = (cn f x 64 : Int) - 1) (h1 : 1 < cn f x 64) : Cnt (D.put (.int .i64 x) (.lit (.int .i64 c))) (f.set i (0, 0)) := by
  have hs := fun y => cn_set f i (0, 0) y 64 hi
  refine ⟨fun y => ?_, fun y => ?_, h.isMap.put _ _⟩
  · by_cases e : y = x
    · subst e
      rw [atKey_put_same h.isMap (k := .int .i64 _) trivial, hc]
      have := hs y
      rw [if_pos ⟨hx, hf⟩, if_neg (by rintro ⟨a, b⟩; exact a b.symm)] at this
      rw [show ((cn f y 64 : Nat) : Int) - 1 = ((cn (f.set i (0, 0)) y 64 : Nat) : Int) by omega]
    · rw [atKey_put_other (lit_ne e), h.at_]
      have := hs y
      rw [if_neg (by rintro ⟨_, b⟩; exact e (by rw [← b, hf])), if_neg (by rintro ⟨a, b⟩; exact a b.symm)] at this
      rw [show cn (f.set i (0, 0)) y 64 = cn f y 64 by omega]
  · by_cases e : y = x
    · subst e
      rw [has_put_same h.isMap (k := .int .i64 _) trivial]
      have := hs y
      rw [if_pos ⟨hx, hf⟩, if_neg (by rintro ⟨a, b⟩; exact a b.symm)] at this
      rw [decide_eq_true (by omega)]
    · rw [has_put_other (lit_ne e), h.has]
      have := hs y
      rw [if_neg (by rintro ⟨_, b⟩; exact e (by rw [← b, hf])), if_neg (by rintro ⟨a, b⟩; exact a b.symm)] at this
      rw [show cn (f.set i (0, 0)) y 64 = cn f y 64 by omega]
/-- .. or it was the last one. -/
theorem Cnt.last {D : DataW Unit} {f : FT} (h : Cnt D f) {i : Nat} (hi : i < 64) {x : Int} (hf : (f i).1 = x) (hx : x ≠ 0) (d : DataW Unit) (h1 : cn f x 64 = 1) : Cnt ((D.put (.int .i64 x) d).del (.int .i64 x)) (f.set i (0, 0)) := by
  have hs := fun y => cn_set f i (0, 0) y 64 hi
  refine ⟨fun y => ?_, fun y => ?_, (h.isMap.put _ _).del _⟩
  · by_cases e : y = x
    · subst e
      rw [atKey_del_same]
      have := hs y
      rw [if_pos ⟨hx, hf⟩, if_neg (by rintro ⟨a, b⟩; exact a b.symm)] at this
      rw [show cn (f.set i (0, 0)) y 64 = 0 by omega]; rfl
    · rw [atKey_del_other (lit_ne e), atKey_put_other (lit_ne e), h.at_]
      have := hs y
      rw [if_neg (by rintro ⟨_, b⟩; exact e (by rw [← b, hf])), if_neg (by rintro ⟨a, b⟩; exact a b.symm)] at this
      rw [show cn (f.set i (0, 0)) y 64 = cn f y 64 by omega]
  · by_cases e : y = x
    · subst e
      rw [has_del_same]
      have := hs y
      rw [if_pos ⟨hx, hf⟩, if_neg (by rintro ⟨a, b⟩; exact a b.symm)] at this
      rw [decide_eq_false (by omega)]
    · rw [has_del_other (lit_ne e), has_put_other (lit_ne e), h.has]
      have := hs y
      rw [if_neg (by rintro ⟨_, b⟩; exact e (by rw [← b, hf])), if_neg (by rintro ⟨a, b⟩; exact a b.symm)] at this
      rw [show cn (f.set i (0, 0)) y 64 = cn f y 64 by omega]
end Go.Proofs.Ytiffkcffcjembaa
