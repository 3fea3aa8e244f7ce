/- The open places of a table as a list, with its cells: of no program's text. -/
import Derived.Test.YtiffkcffcjembaaH4
import Derived.Test.YtiffkcffcjembaaAppH
namespace Go.Proofs.Ytiffkcffcjembaa
open Go.RowKit Go.Maps
set_option linter.unusedVariables false
set_option linter.unusedSimpArgs false
abbrev HT := Int × Int × Int
/-- A place, where it is open. -/
def en (f : FT) (i : Nat) : List HT := if (f i).1 = 0 then [] else [((i : Int), (f i).1, (f i).2)]
/-- The open ones among the c places from a on. -/
def os (f : FT) (a : Nat) : Nat → List HT
  | 0 => []
  | c + 1 => os f a c ++ en f (a + c)
abbrev ol (f : FT) : List HT := os f 0 64
theorem os_add (f : FT) (a c : Nat) : ∀ d, os f a (c + d) = os f a c ++ os f (a + c) d
  | 0 => by simp [os]
  | d + 1 => by
    show os f a (c + d) ++ en f (a + (c + d)) = os f a c ++ (os f (a + c) d ++ en f (a + c + d))
    rw [os_add f a c d, List.append_assoc, Nat.add_assoc]
theorem os_cut (f : FT) (i : Nat) (hi : i < 64) : ol f = os f 0 i ++ (en f i ++ os f (i + 1) (63 - i)) := by
  have h1 := os_add f 0 i (1 + (63 - i))
  have h2 := os_add f i 1 (63 - i)
  have e : i + (1 + (63 - i)) = 64 := by omega
  rw [e] at h1
  rw [show ol f = os f 0 64 from rfl, h1, Nat.zero_add, h2]
  congr 1
theorem os_set (f : FT) (i : Nat) (v : Int × Int) (a : Nat) : ∀ c, (i < a ∨ a + c ≤ i) → os (f.set i v) a c = os f a c
  | 0, _ => rfl
  | c + 1, h => by
    show os (f.set i v) a c ++ en (f.set i v) (a + c) = os f a c ++ en f (a + c)
    rw [os_set f i v a c (by omega)]
    unfold en
    rw [FT.set_other f v (by omega)]
theorem os_le (f : FT) (a : Nat) : ∀ c, (os f a c).length ≤ c
  | 0 => Nat.le_refl _
  | c + 1 => by
    have := os_le f a c
    simp only [os, List.length_append]
    unfold en
    split <;> simp <;> omega
theorem ol_le (f : FT) : (ol f).length ≤ 64 := os_le f 0 64
/-- Each has a number of its own range. -/
theorem os_mem (f : FT) (a : Nat) : ∀ c p, p ∈ os f a c → ∃ i, a ≤ i ∧ i < a + c ∧ p = ((i : Int), (f i).1, (f i).2) ∧ (f i).1 ≠ 0
  | 0, p, h => by cases h
  | c + 1, p, h => by
    simp only [os, List.mem_append] at h
    rcases h with h | h
    · obtain ⟨i, h1, h2, h3⟩ := os_mem f a c p h
      exact ⟨i, h1, by omega, h3⟩
    · unfold en at h
      split at h
      · cases h
      · rename_i hne
        obtain rfl : p = _ := by simpa using h
        exact ⟨a + c, by omega, by omega, rfl, hne⟩
theorem os_has (f : FT) (a : Nat) : ∀ c i, a ≤ i → i < a + c → (f i).1 ≠ 0 → ((i : Int), (f i).1, (f i).2) ∈ os f a c
  | 0, i, h1, h2, _ => by omega
  | c + 1, i, h1, h2, h3 => by
    simp only [os, List.mem_append]
    by_cases e : i = a + c
    · right
      subst e
      unfold en
      rw [if_neg h3]; simp
    · left; exact os_has f a c i h1 (by omega) h3
/-- All of the first m are open: they stand at their own numbers. -/
theorem os_full (f : FT) : ∀ m, (∀ i, i < m → (f i).1 ≠ 0) → (os f 0 m).length = m ∧ ∀ j, j < m → (os f 0 m)[j]? = some ((j : Int), (f j).1, (f j).2)
  | 0, _ => ⟨rfl, fun j hj => by omega⟩
  | m + 1, h => by
    obtain ⟨h1, h2⟩ := os_full f m (fun i hi => h i (by omega))
    have e : en f (0 + m) = [((m : Int), (f m).1, (f m).2)] := by unfold en; rw [Nat.zero_add, if_neg (h m (by omega))]
    refine ⟨by show (os f 0 m ++ en f (0 + m)).length = m + 1; rw [e]; simp [h1], fun j hj => ?_⟩
    simp only [os, e]
    by_cases ej : j < m
    · rw [List.getElem?_append_left (by omega)]; exact h2 j ej
    · obtain rfl : j = m := by omega
      rw [List.getElem?_append_right (by omega), h1]; simp
/-- Opened. -/
theorem ol_open (f : FT) (m : Nat) (hm : m < 64) (hat : (f m).1 = 0) (x fl : Int) (hx : x ≠ 0) : ol (f.set m (x, fl)) = os f 0 m ++ ([((m : Int), x, fl)] ++ os f (m + 1) (63 - m)) ∧ ol f = os f 0 m ++ os f (m + 1) (63 - m) := by
  constructor
  · rw [os_cut _ m hm, os_set f m _ 0 m (by omega), os_set f m _ (m + 1) _ (by omega)]
    unfold en
    rw [FT.set_same, if_neg hx]
  · rw [os_cut _ m hm]
    unfold en
    rw [if_pos hat]; rfl
/-- Closed. -/
theorem ol_close (f : FT) (i : Nat) (hi : i < 64) (hf : (f i).1 ≠ 0) : ol (f.set i (0, 0)) = os f 0 i ++ os f (i + 1) (63 - i) ∧ ol f = os f 0 i ++ ([((i : Int), (f i).1, (f i).2)] ++ os f (i + 1) (63 - i)) := by
  constructor
  · rw [os_cut _ i hi, os_set f i _ 0 i (by omega), os_set f i _ (i + 1) _ (by omega)]
    unfold en
    rw [FT.set_same, if_pos rfl]; rfl
  · rw [os_cut _ i hi]
    unfold en
    rw [if_neg hf]
theorem ol_zero : ol f0 = [] := by
  have : ∀ a c, os f0 a c = [] := fun a c => by
    induction c with
    | zero => rfl
    | succ c ih => simp [os, ih, en]
  exact this 0 64
/-- How many of a list's first k are open on x. -/
def ci (l : List HT) (x : Int) (k : Nat) : Nat := ((l.take k).filter fun p => decide (p.2.1 = x)).length
theorem ci_succ (l : List HT) (x : Int) (k : Nat) (p : HT) (h : l[k]? = some p) : ci l x (k + 1) = ci l x k + (if p.2.1 = x then 1 else 0) := by
  unfold ci
  rw [List.take_add_one, h, List.filter_append]
  by_cases e : p.2.1 = x <;> simp [e]
theorem ci_le (l : List HT) (x : Int) (k : Nat) : ci l x k ≤ l.length := by
  unfold ci
  exact Nat.le_trans (List.length_filter_le _ _) (by rw [List.length_take]; omega)
theorem os_cn (f : FT) (x : Int) : ∀ k, ((os f 0 k).filter fun p => decide (p.2.1 = x)).length = cn f x k
  | 0 => rfl
  | k + 1 => by
    simp only [os, cn, List.filter_append, List.length_append]
    rw [os_cn f x k, Nat.zero_add]
    congr 1
    unfold en
    by_cases h0 : (f k).1 = 0
    · rw [if_pos h0]
      by_cases hx : x ≠ 0 ∧ (f k).1 = x
      · exact absurd (hx.2 ▸ h0) hx.1
      · rw [if_neg hx]; rfl
    · rw [if_neg h0]
      by_cases hx : (f k).1 = x
      · rw [if_pos ⟨by rw [← hx]; exact h0, hx⟩]; simp [hx]
      · rw [if_neg (fun h => hx h.2)]; simp [hx]
theorem ci_all (f : FT) (x : Int) : ci (ol f) x (ol f).length = cn f x 64 := by
  unfold ci
  rw [List.take_length]
  exact os_cn f x 64
theorem ol_ino (f : FT) (x : Int) : (∃ p ∈ ol f, p.2.1 = x) ↔ 0 < cn f x 64 := by
  constructor
  · rintro ⟨p, hp, rfl⟩
    obtain ⟨i, _, h2, rfl, h4⟩ := os_mem f 0 64 p hp
    exact cn_pos f _ h4 64 i (by omega) rfl
  · intro h
    obtain ⟨hx, i, hi, rfl⟩ := cn_ex f x 64 h
    exact ⟨_, os_has f 0 64 i (by omega) (by omega) hx, rfl⟩
/-- Their cells. -/
def c3 (l : List HT) : List Value := l.flatMap fun p => [.int .i64 p.1, .int .i64 p.2.1, .int .i64 p.2.2]
theorem c3_len (l : List HT) : (c3 l).length = l.length * 3 := by
  induction l with
  | nil => rfl
  | cons p l ih => simp [c3] at ih ⊢; omega
theorem c3_app (l m : List HT) : c3 (l ++ m) = c3 l ++ c3 m := by simp [c3]
theorem c3_one (p : HT) : c3 [p] = [.int .i64 p.1, .int .i64 p.2.1, .int .i64 p.2.2] := by simp [c3]
theorem c3_cell (l : List HT) : ∀ u ∈ c3 l, u.oneCell' = true := by
  intro u hu
  simp only [c3, List.mem_flatMap] at hu
  obtain ⟨p, _, hu⟩ := hu
  simp at hu
  rcases hu with rfl | rfl | rfl <;> rfl
theorem c3_at (l : List HT) : ∀ (i : Nat) (p : HT), l[i]? = some p → (c3 l)[i * 3]? = some (.int .i64 p.1) ∧ (c3 l)[i * 3 + 1]? = some (.int .i64 p.2.1) ∧ (c3 l)[i * 3 + 2]? = some (.int .i64 p.2.2) := by
  intro i p h
  have hi : i < l.length := (List.getElem?_eq_some_iff.1 h).1
  have e : l = l.take i ++ ([p] ++ l.drop (i + 1)) := by
    have h2 := (List.getElem?_eq_some_iff.1 h).2
    rw [← h2]
    simp
  have ht : (c3 (l.take i)).length = i * 3 := by rw [c3_len, List.length_take]; congr 1; omega
  rw [e, c3_app, c3_app, c3_one]
  refine ⟨?_, ?_, ?_⟩
  · rw [List.getElem?_append_right (by omega), ht]; simp
  · rw [List.getElem?_append_right (by omega), ht, show i * 3 + 1 - i * 3 = 1 by omega]; simp
  · rw [List.getElem?_append_right (by omega), ht, show i * 3 + 2 - i * 3 = 2 by omega]; simp
/-- Where a row of one's own lies. -/
theorem own_at {w : World} {B e s n : Nat} {v : Value} {xs : List Value} (h : w.ownsRow B e s v n xs) (hn : 0 < n) : ∃ g cap, v = .slice (some ⟨g, 0, none⟩) n cap ∧ n ≤ cap ∧ B ≤ g ∧ g < w.heap.size ∧ ∀ j u, xs[j]? = some u → w.cell? ⟨g, j, none⟩ = some u := by
  rcases h.2 with ⟨h1, h2⟩ | ⟨g, cap, cur, h1, h2, hh, h3, h4, h5, h6⟩
  · omega
  · refine ⟨g, cap, h1, h3, h2, blk_lt hh, fun j u hu => ?_⟩
    rw [blk_cell hh, ← Array.getElem?_toList]
    rw [← h6] at hu
    rw [List.getElem?_take] at hu
    split at hu
    · exact hu
    · cases hu
end Go.Proofs.Ytiffkcffcjembaa
