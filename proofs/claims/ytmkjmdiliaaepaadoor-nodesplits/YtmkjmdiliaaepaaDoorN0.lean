/- Rows of one-cell values in memory wherever; nodes as plain values (for node). -/
import Derived.Test.YtmkjmdiliaaepaaDoorAppK
import Derived.Test.YtmkjmdiliaaepaaDoorStepC
import Derived.Sort.Walk0
namespace Go.Proofs.YtmkjmdiliaaepaaDoor
open Go.RowKit
set_option linter.unusedVariables false
/-- A slice whose elements are these values (one cell each), wherever it lies. -/
def Row (w : World) (v : Value) (xs : List Value) : Prop :=
  ∃ a cap, v = .slice a xs.length cap ∧ xs.length ≤ cap ∧ (a = none → cap = 0) ∧ (0 < xs.length → ∃ b off, a = some ⟨b, off, none⟩ ∧ ∀ j x, xs[j]? = some x → w.cell? ⟨b, off + j, none⟩ = some x)
theorem Row.nil (w : World) : Row w (.slice none 0 0) [] := ⟨none, 0, rfl, Nat.le_refl _, fun _ => rfl, fun h => absurd h (by simp)⟩
theorem Row.form {w : World} {v : Value} {xs : List Value} (h : Row w v xs) : ∃ a cap, v = .slice a xs.length cap := by
  obtain ⟨a, cap, h1, _⟩ := h
  exact ⟨a, cap, h1⟩
theorem Row.same {w w' : World} {v : Value} {xs : List Value} (h : Row w v xs) (k : Same w w') : Row w' v xs := by
  obtain ⟨a, cap, h1, h2, h3, h4⟩ := h
  refine ⟨a, cap, h1, h2, h3, fun hp => ?_⟩
  obtain ⟨b, off, e, hc⟩ := h4 hp
  exact ⟨b, off, e, fun j x hj => k.cell (p := ⟨b, off + j, none⟩) (fun h => h) (hc j x hj)⟩
theorem Row.len {w : World} {a : Option Addr} {n cap : Nat} {xs : List Value} (h : Row w (.slice a n cap) xs) : n = xs.length ∧ n ≤ cap := by
  obtain ⟨a', cap', h1, h2, _⟩ := h
  simp only [Value.slice.injEq] at h1
  obtain ⟨rfl, rfl, rfl⟩ := h1
  exact ⟨rfl, h2⟩
theorem Row.at {w : World} {a : Option Addr} {n cap : Nat} {xs : List Value} (h : Row w (.slice a n cap) xs) (hp : 0 < xs.length) : ∃ b off, a = some ⟨b, off, none⟩ ∧ ∀ j x, xs[j]? = some x → w.cell? ⟨b, off + j, none⟩ = some x := by
  obtain ⟨a', cap', h1, h2, h3, h4⟩ := h
  simp only [Value.slice.injEq] at h1
  obtain ⟨rfl, rfl, rfl⟩ := h1
  exact h4 hp
theorem Row.lies {w : World} {a : Option Addr} {n cap : Nat} {xs : List Value} (h : Row w (.slice a n cap) xs) : Lies w a n xs := by
  intro hn
  have hl := h.len.1
  obtain ⟨b, off, rfl, hc⟩ := h.at (by omega)
  exact ⟨_, rfl, fun j u hj => by rw [add_none]; exact hc j u hj⟩
theorem Row.own {w : World} {B n : Nat} {e : TypeId} {v : Value} {xs : List Value} (h : w.ownsRow B e 1 v n xs) : Row w v xs := by
  have hl : xs.length = n := by have := h.1; omega
  rcases h.2 with ⟨h1, h2⟩ | ⟨g, cap, cur, h1, h2, h3, h4, h5, h6, h7⟩
  · obtain rfl : xs = [] := List.eq_nil_of_length_eq_zero (by omega)
    rw [h1]
    exact Row.nil _
  · refine ⟨some ⟨g, 0, none⟩, cap, by rw [h1, hl], by omega, (fun e => by cases e), fun hp => ⟨g, 0, rfl, fun j x hj => ?_⟩⟩
    have := World.ownsRow.cells h (g := g) (by rw [h1]; rfl) j x hj
    rwa [add_none] at this
/-- A part of a row. -/
theorem Row.part {w : World} {b off n cap : Nat} {xs : List Value} (h : Row w (.slice (some ⟨b, off, none⟩) n cap) xs) (i m c : Nat) (hm : i + m ≤ n) (hc : m ≤ c) : Row w (.slice (some ⟨b, off + i, none⟩) m c) ((xs.drop i).take m) := by
  have hl := h.len.1
  have hlen : ((xs.drop i).take m).length = m := by rw [List.length_take, List.length_drop]; omega
  refine ⟨some ⟨b, off + i, none⟩, c, by rw [hlen], by omega, (fun e => by cases e), fun hp => ⟨b, off + i, rfl, fun j x hj => ?_⟩⟩
  obtain ⟨b', off', e, hcell⟩ := h.at (by omega)
  cases e
  have hjm : j < m := by have := (List.getElem?_eq_some_iff.1 hj).1; omega
  rw [List.getElem?_take, if_pos hjm, List.getElem?_drop] at hj
  rw [Nat.add_assoc]
  exact hcell _ _ hj
/-- Texts, and ints. -/
def TS (l : List ByteArray) : List Value := l.map Value.string
def IS (l : List Int) : List Value := l.map (Value.int .i64)
theorem TS_len (l : List ByteArray) : (TS l).length = l.length := List.length_map _
theorem IS_len (l : List Int) : (IS l).length = l.length := List.length_map _
theorem TS_at (l : List ByteArray) {j : Nat} (h : j < l.length) : (TS l)[j]? = some (.string l[j]) := by simp [TS, h]
theorem IS_at (l : List Int) {j : Nat} (h : j < l.length) : (IS l)[j]? = some (.int .i64 l[j]) := by simp [IS, h]
theorem TS_one (l : List ByteArray) : ∀ u ∈ TS l, u.oneCell' = true := fun u hu => by
  obtain ⟨x, _, rfl⟩ := List.mem_map.1 hu
  rfl
theorem IS_one (l : List Int) : ∀ u ∈ IS l, u.oneCell' = true := fun u hu => by
  obtain ⟨x, _, rfl⟩ := List.mem_map.1 hu
  rfl
/-- A text of a row of texts, to be read. -/
theorem Row.text {w : World} {a : Option Addr} {n cap : Nat} {l : List ByteArray} (h : Row w (.slice a n cap) (TS l)) {j : Nat} (hj : j < l.length) : ∃ b off, a = some ⟨b, off, none⟩ ∧ w.cell? ⟨b, off + j, none⟩ = some (.string l[j]) := by
  obtain ⟨b, off, e, hc⟩ := h.at (by rw [TS_len]; omega)
  exact ⟨b, off, e, hc j _ (TS_at l hj)⟩
theorem Row.int {w : World} {a : Option Addr} {n cap : Nat} {l : List Int} (h : Row w (.slice a n cap) (IS l)) {j : Nat} (hj : j < l.length) : ∃ b off, a = some ⟨b, off, none⟩ ∧ w.cell? ⟨b, off + j, none⟩ = some (.int .i64 l[j]) := by
  obtain ⟨b, off, e, hc⟩ := h.at (by rw [IS_len]; omega)
  exact ⟨b, off, e, hc j _ (IS_at l hj)⟩
theorem Row.textAt {w : World} {b off n cap : Nat} {l : List ByteArray} (h : Row w (.slice (some ⟨b, off, none⟩) n cap) (TS l)) {j : Nat} (hj : j < l.length) : w.cell? ⟨b, off + j, none⟩ = some (.string l[j]) := by
  obtain ⟨b', off', e, hc⟩ := h.text hj
  cases e
  exact hc
theorem Row.intAt {w : World} {b off n cap : Nat} {l : List Int} (h : Row w (.slice (some ⟨b, off, none⟩) n cap) (IS l)) {j : Nat} (hj : j < l.length) : w.cell? ⟨b, off + j, none⟩ = some (.int .i64 l[j]) := by
  obtain ⟨b', off', e, hc⟩ := h.int hj
  cases e
  exact hc
def ltS (a b : ByteArray) : Bool := decide (a.toList < b.toList)
theorem bytes_ext {a b : ByteArray} (h : a.toList = b.toList) : a = b := by
  rw [Lib.toList_data, Lib.toList_data] at h
  cases a; cases b
  simp only at h
  congr 1
  exact Array.toList_inj.1 h
theorem less_of {a b : ByteArray} {t : Bool} (h : ltS a b = t) : Op.bytesLess a.toList b.toList = t := by rw [bytesLess_eq]; exact h
theorem lt_yes {x y : ByteArray} (h : ltS y x = true) : Op.bytesLess y.toList x.toList = true ∧ Op.bytesLess x.toList y.toList = false ∧ (x.toList == y.toList) = false ∧ (y.toList == x.toList) = false := by
  have h1 : y.toList < x.toList := by simpa [ltS] using h
  have hne : y.toList ≠ x.toList := fun e => by rw [e] at h1; exact absurd h1 (List.lt_irrefl _)
  exact ⟨less_of h, by rw [bytesLess_eq]; exact decide_eq_false (List.lt_asymm h1), beq_eq_false_iff_ne.2 hne.symm, beq_eq_false_iff_ne.2 hne⟩
theorem lt_no {x y : ByteArray} (h : ltS y x = false) : ltS x y = true ∨ x = y := by
  by_cases h2 : ltS x y = true
  · exact .inl h2
  · right
    have h1 : ¬ y.toList < x.toList := by simpa [ltS] using h
    have h3 : ¬ x.toList < y.toList := by simpa [ltS] using h2
    exact bytes_ext (List.le_antisymm (List.not_lt.1 h1) (List.not_lt.1 h3))
theorem lt_self (x : ByteArray) : Op.bytesLess x.toList x.toList = false ∧ (x.toList == x.toList) = true := ⟨by rw [bytesLess_eq]; exact decide_eq_false (List.lt_irrefl _), by simp⟩
theorem wrapN {z : Int} (h0 : -9223372036854775808 ≤ z) (h1 : z ≤ 9223372036854775807) : IntKind.i64.wrap z = z := by
  simp [IntKind.wrap, IntKind.signed, IntKind.bits]; omega
def mayK (k : ByteArray) : Bool := decide (1 ≤ k.size) && decide (k.size ≤ 64)
def mayV (k : ByteArray) : Bool := decide (k.size ≤ 64)
def noKid (z : Int) : Bool := decide (z < 0) || decide (4294967295 < z)
/-- Each above the one ahead. -/
def rises : List ByteArray → Bool
  | a :: b :: l => ltS a b && rises (b :: l)
  | _ => true
/-- A node. -/
structure Nd where
  leaf : Bool
  keys : List ByteArray
  vals : List ByteArray
  kids : List Int
def Nd.ents (n : Nd) : Bool := n.keys.all mayK && n.vals.all mayV
def Nd.lists (n : Nd) : Bool := if n.leaf then decide (n.vals.length = n.keys.length) && decide (n.kids.length = 0) else decide (n.vals.length = 0) && decide (n.kids.length = n.keys.length + 1)
def Nd.shape (n : Nd) : Bool := n.lists && !n.kids.any noKid && rises n.keys
theorem rises_at : ∀ {l : List ByteArray}, rises l = true ↔ ∀ i (h : i + 1 < l.length), ltS l[i] l[i + 1] = true
  | [] => by simp [rises]
  | [a] => by simp [rises]
  | a :: b :: l => by
    have ih := @rises_at (b :: l)
    simp only [rises, Bool.and_eq_true, ih]
    constructor
    · rintro ⟨h1, h2⟩ i hi
      cases i with
      | zero => simpa using h1
      | succ i => exact h2 i (by simpa using hi)
    · intro h
      refine ⟨by simpa using h 0 (by simp), fun i hi => ?_⟩
      exact h (i + 1) (by simpa using hi)
theorem Row.tl {w : World} {a : Option Addr} {n cap : Nat} {l : List ByteArray} (h : Row w (.slice a n cap) (TS l)) : l.length = n := by have := h.len.1; rw [TS_len] at this; exact this.symm
theorem Row.il {w : World} {a : Option Addr} {n cap : Nat} {l : List Int} (h : Row w (.slice a n cap) (IS l)) : l.length = n := by have := h.len.1; rw [IS_len] at this; exact this.symm
/-- No list is longer than memory is. -/
structure Nd.Bd (n : Nd) : Prop where
  k : n.keys.length ≤ 17592186044416
  v : n.vals.length ≤ 17592186044416
  i : n.kids.length ≤ 35184372088832
end Go.Proofs.YtmkjmdiliaaepaaDoor
