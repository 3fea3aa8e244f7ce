/- node: slices.Clone of texts and of ints; clone. -/
import Derived.Test.YtpjgghalnkfdkaaDoorAppK
import Derived.Test.YtpjgghalnkfdkaaDoorStepC
import Derived.Sort.Walk0
/- node: Find; slices.Index, Contains of texts. -/
/- node: mayLists, rise, ContainsFunc at noKid, checkPart, Check. -/
/- node: mayKey, mayValue, noKid, mayEntries, mayLists, rise, checkPart, Check. -/
/- Rows of one-cell values in memory wherever; nodes as plain values (for node). -/
namespace Go.Proofs.YtpjgghalnkfdkaaDoor
open Go.RowKit
set_option linter.unusedVariables false
/-- A slice whose elements are these values (one cell each), wherever it lies. -/
def Row (w : World) (v : Value) (xs : List Value) : Prop :=
  ∃ a cap, v = .slice a xs.length cap ∧ xs.length ≤ cap ∧ (a = none → cap = 0) ∧ (0 < xs.length → ∃ b off, a = some ⟨b, off, none⟩ ∧ ∀ j x, xs[j]? = some x → w.cell? ⟨b, off + j, none⟩ = some x)
theorem Row.nil (w : World) : Row w (.slice none 0 0) [] := ⟨none, 0, rfl, Nat.le_refl _, fun _ => rfl, fun h => absurd h (by simp)⟩
theorem Row.form {w : World} {v : Value} {xs : List Value} (h : Row w v xs) : ∃ a cap, v = .slice a xs.length cap := by
  obtain ⟨a, cap, h1, _⟩ := h
  exact ⟨a, cap, h1⟩
theorem Row.same {w w' : World} {v : Value} {xs : List Value} (h : Row w v xs) (k : Same w w') : Row w' v xs := by
  obtain ⟨a, cap, h1, h2, h3, h4⟩ := h
  refine ⟨a, cap, h1, h2, h3, fun hp => ?_⟩
  obtain ⟨b, off, e, hc⟩ := h4 hp
  exact ⟨b, off, e, fun j x hj => k.cell (p := ⟨b, off + j, none⟩) (fun h => h) (hc j x hj)⟩
theorem Row.len {w : World} {a : Option Addr} {n cap : Nat} {xs : List Value} (h : Row w (.slice a n cap) xs) : n = xs.length ∧ n ≤ cap := by
  obtain ⟨a', cap', h1, h2, _⟩ := h
  simp only [Value.slice.injEq] at h1
  obtain ⟨rfl, rfl, rfl⟩ := h1
  exact ⟨rfl, h2⟩
theorem Row.at {w : World} {a : Option Addr} {n cap : Nat} {xs : List Value} (h : Row w (.slice a n cap) xs) (hp : 0 < xs.length) : ∃ b off, a = some ⟨b, off, none⟩ ∧ ∀ j x, xs[j]? = some x → w.cell? ⟨b, off + j, none⟩ = some x := by
  obtain ⟨a', cap', h1, h2, h3, h4⟩ := h
  simp only [Value.slice.injEq] at h1
  obtain ⟨rfl, rfl, rfl⟩ := h1
  exact h4 hp
theorem Row.lies {w : World} {a : Option Addr} {n cap : Nat} {xs : List Value} (h : Row w (.slice a n cap) xs) : Lies w a n xs := by
  intro hn
  have hl := h.len.1
  obtain ⟨b, off, rfl, hc⟩ := h.at (by omega)
  exact ⟨_, rfl, fun j u hj => by rw [add_none]; exact hc j u hj⟩
theorem Row.own {w : World} {B n : Nat} {e : TypeId} {v : Value} {xs : List Value} (h : w.ownsRow B e 1 v n xs) : Row w v xs := by
  have hl : xs.length = n := by have := h.1; omega
  rcases h.2 with ⟨h1, h2⟩ | ⟨g, cap, cur, h1, h2, h3, h4, h5, h6, h7⟩
  · obtain rfl : xs = [] := List.eq_nil_of_length_eq_zero (by omega)
    rw [h1]
    exact Row.nil _
  · refine ⟨some ⟨g, 0, none⟩, cap, by rw [h1, hl], by omega, (fun e => by cases e), fun hp => ⟨g, 0, rfl, fun j x hj => ?_⟩⟩
    have := World.ownsRow.cells h (g := g) (by rw [h1]; rfl) j x hj
    rwa [add_none] at this
/-- A part of a row. -/
theorem Row.part {w : World} {b off n cap : Nat} {xs : List Value} (h : Row w (.slice (some ⟨b, off, none⟩) n cap) xs) (i m c : Nat) (hm : i + m ≤ n) (hc : m ≤ c) : Row w (.slice (some ⟨b, off + i, none⟩) m c) ((xs.drop i).take m) := by
  have hl := h.len.1
  have hlen : ((xs.drop i).take m).length = m := by rw [List.length_take, List.length_drop]; omega
  refine ⟨some ⟨b, off + i, none⟩, c, by rw [hlen], by omega, (fun e => by cases e), fun hp => ⟨b, off + i, rfl, fun j x hj => ?_⟩⟩
  obtain ⟨b', off', e, hcell⟩ := h.at (by omega)
  cases e
  have hjm : j < m := by have := (List.getElem?_eq_some_iff.1 hj).1; omega
  rw [List.getElem?_take, if_pos hjm, List.getElem?_drop] at hj
  rw [Nat.add_assoc]
  exact hcell _ _ hj
/-- Texts, and ints. -/
def TS (l : List ByteArray) : List Value := l.map Value.string
def IS (l : List Int) : List Value := l.map (Value.int .i64)
theorem TS_len (l : List ByteArray) : (TS l).length = l.length := List.length_map _
theorem IS_len (l : List Int) : (IS l).length = l.length := List.length_map _
theorem TS_at (l : List ByteArray) {j : Nat} (h : j < l.length) : (TS l)[j]? = some (.string l[j]) := by simp [TS, h]
theorem IS_at (l : List Int) {j : Nat} (h : j < l.length) : (IS l)[j]? = some (.int .i64 l[j]) := by simp [IS, h]
theorem TS_one (l : List ByteArray) : ∀ u ∈ TS l, u.oneCell' = true := fun u hu => by
  obtain ⟨x, _, rfl⟩ := List.mem_map.1 hu
  rfl
theorem IS_one (l : List Int) : ∀ u ∈ IS l, u.oneCell' = true := fun u hu => by
  obtain ⟨x, _, rfl⟩ := List.mem_map.1 hu
  rfl
/-- A text of a row of texts, to be read. -/
theorem Row.text {w : World} {a : Option Addr} {n cap : Nat} {l : List ByteArray} (h : Row w (.slice a n cap) (TS l)) {j : Nat} (hj : j < l.length) : ∃ b off, a = some ⟨b, off, none⟩ ∧ w.cell? ⟨b, off + j, none⟩ = some (.string l[j]) := by
  obtain ⟨b, off, e, hc⟩ := h.at (by rw [TS_len]; omega)
  exact ⟨b, off, e, hc j _ (TS_at l hj)⟩
theorem Row.int {w : World} {a : Option Addr} {n cap : Nat} {l : List Int} (h : Row w (.slice a n cap) (IS l)) {j : Nat} (hj : j < l.length) : ∃ b off, a = some ⟨b, off, none⟩ ∧ w.cell? ⟨b, off + j, none⟩ = some (.int .i64 l[j]) := by
  obtain ⟨b, off, e, hc⟩ := h.at (by rw [IS_len]; omega)
  exact ⟨b, off, e, hc j _ (IS_at l hj)⟩
theorem Row.textAt {w : World} {b off n cap : Nat} {l : List ByteArray} (h : Row w (.slice (some ⟨b, off, none⟩) n cap) (TS l)) {j : Nat} (hj : j < l.length) : w.cell? ⟨b, off + j, none⟩ = some (.string l[j]) := by
  obtain ⟨b', off', e, hc⟩ := h.text hj
  cases e
  exact hc
theorem Row.intAt {w : World} {b off n cap : Nat} {l : List Int} (h : Row w (.slice (some ⟨b, off, none⟩) n cap) (IS l)) {j : Nat} (hj : j < l.length) : w.cell? ⟨b, off + j, none⟩ = some (.int .i64 l[j]) := by
  obtain ⟨b', off', e, hc⟩ := h.int hj
  cases e
  exact hc
def ltS (a b : ByteArray) : Bool := decide (a.toList < b.toList)
theorem bytes_ext {a b : ByteArray} (h : a.toList = b.toList) : a = b := by
  rw [Lib.toList_data, Lib.toList_data] at h
  cases a; cases b
  simp only at h
  congr 1
  exact Array.toList_inj.1 h
theorem less_of {a b : ByteArray} {t : Bool} (h : ltS a b = t) : Op.bytesLess a.toList b.toList = t := by rw [bytesLess_eq]; exact h
theorem lt_yes {x y : ByteArray} (h : ltS y x = true) : Op.bytesLess y.toList x.toList = true ∧ Op.bytesLess x.toList y.toList = false ∧ (x.toList == y.toList) = false ∧ (y.toList == x.toList) = false := by
  have h1 : y.toList < x.toList := by simpa [ltS] using h
  have hne : y.toList ≠ x.toList := fun e => by rw [e] at h1; exact absurd h1 (List.lt_irrefl _)
  exact ⟨less_of h, by rw [bytesLess_eq]; exact decide_eq_false (List.lt_asymm h1), beq_eq_false_iff_ne.2 hne.symm, beq_eq_false_iff_ne.2 hne⟩
theorem lt_no {x y : ByteArray} (h : ltS y x = false) : ltS x y = true ∨ x = y := by
  by_cases h2 : ltS x y = true
  · exact .inl h2
  · right
    have h1 : ¬ y.toList < x.toList := by simpa [ltS] using h
    have h3 : ¬ x.toList < y.toList := by simpa [ltS] using h2
    exact bytes_ext (List.le_antisymm (List.not_lt.1 h1) (List.not_lt.1 h3))
theorem lt_self (x : ByteArray) : Op.bytesLess x.toList x.toList = false ∧ (x.toList == x.toList) = true := ⟨by rw [bytesLess_eq]; exact decide_eq_false (List.lt_irrefl _), by simp⟩
theorem wrapN {z : Int} (h0 : -9223372036854775808 ≤ z) (h1 : z ≤ 9223372036854775807) : IntKind.i64.wrap z = z := by
  simp [IntKind.wrap, IntKind.signed, IntKind.bits]; omega
def mayK (k : ByteArray) : Bool := decide (1 ≤ k.size) && decide (k.size ≤ 64)
def mayV (k : ByteArray) : Bool := decide (k.size ≤ 64)
def noKid (z : Int) : Bool := decide (z < 0) || decide (4294967295 < z)
/-- Each above the one ahead. -/
def rises : List ByteArray → Bool
  | a :: b :: l => ltS a b && rises (b :: l)
  | _ => true
/-- A node. -/
structure Nd where
  leaf : Bool
  keys : List ByteArray
  vals : List ByteArray
  kids : List Int
def Nd.ents (n : Nd) : Bool := n.keys.all mayK && n.vals.all mayV
def Nd.lists (n : Nd) : Bool := if n.leaf then decide (n.vals.length = n.keys.length) && decide (n.kids.length = 0) else decide (n.vals.length = 0) && decide (n.kids.length = n.keys.length + 1)
def Nd.shape (n : Nd) : Bool := n.lists && !n.kids.any noKid && rises n.keys
theorem rises_at : ∀ {l : List ByteArray}, rises l = true ↔ ∀ i (h : i + 1 < l.length), ltS l[i] l[i + 1] = true
  | [] => by simp [rises]
  | [a] => by simp [rises]
  | a :: b :: l => by
    have ih := @rises_at (b :: l)
    simp only [rises, Bool.and_eq_true, ih]
    constructor
    · rintro ⟨h1, h2⟩ i hi
      cases i with
      | zero => simpa using h1
      | succ i => exact h2 i (by simpa using hi)
    · intro h
      refine ⟨by simpa using h 0 (by simp), fun i hi => ?_⟩
      exact h (i + 1) (by simpa using hi)
theorem Row.tl {w : World} {a : Option Addr} {n cap : Nat} {l : List ByteArray} (h : Row w (.slice a n cap) (TS l)) : l.length = n := by have := h.len.1; rw [TS_len] at this; exact this.symm
theorem Row.il {w : World} {a : Option Addr} {n cap : Nat} {l : List Int} (h : Row w (.slice a n cap) (IS l)) : l.length = n := by have := h.len.1; rw [IS_len] at this; exact this.symm
/-- No list is longer than memory is. -/
structure Nd.Bd (n : Nd) : Prop where
  k : n.keys.length ≤ 17592186044416
  v : n.vals.length ≤ 17592186044416
  i : n.kids.length ≤ 35184372088832
end Go.Proofs.YtpjgghalnkfdkaaDoor
namespace Go.Proofs.YtpjgghalnkfdkaaDoor
open Go.RowKit
set_option linter.unusedVariables false
theorem box_cell {w w1 : World} {cs : Array Value} {t : TypeId} {v : Value} (j : Nat) (k : Same (w.alloc (.cells cs t)) w1) (h : cs[j]? = some v) : w1.cell? ⟨w.heap.size, j, none⟩ = some v :=
  k.cell (p := ⟨w.heap.size, j, none⟩) (fun h => h) (by rw [cell_of_row _ _ _ _ _ _ (heap_alloc_new w _)]; exact h)
set_option maxHeartbeats 1000000 in
set_option maxRecDepth 100000 in
theorem mayKey_any (k : ByteArray) (w : World) : Calls Tryd.prog 47 #[.string k] w fun e w' => e = .returned (.bool (mayK k)) ∧ w = w' := by
  by_cases h : 1 ≤ k.size
  · have h1 : (1 : Int) ≤ (k.size : Int) := by omega
    go_enter Tryd.func47, Tryd.ntmps47
    go_wp2
    go_returns
    simp [mayK, h]
    omega
  · have h1 : ¬ (1 : Int) ≤ (k.size : Int) := by omega
    go_enter Tryd.func47, Tryd.ntmps47
    go_wp2
    go_returns
    simp [mayK, h]
set_option maxHeartbeats 1000000 in
set_option maxRecDepth 100000 in
theorem mayValue_any (k : ByteArray) (w : World) : Calls Tryd.prog 48 #[.string k] w fun e w' => e = .returned (.bool (mayV k)) ∧ w = w' := by
  go_enter Tryd.func48, Tryd.ntmps48
  go_wp2
  go_returns
  simp [mayV]
  omega
set_option maxHeartbeats 1000000 in
set_option maxRecDepth 100000 in
theorem noKid_any (z : Int) (w : World) : Calls Tryd.prog 67 #[.int .i64 z] w fun e w' => e = .returned (.bool (noKid z)) ∧ w = w' := by
  by_cases h : z < 0
  · go_enter Tryd.func67, Tryd.ntmps67
    go_wp2
    go_returns
    simp [noKid, h]
  · go_enter Tryd.func67, Tryd.ntmps67
    go_wp2
    go_returns
    have h2 : decide (z < 0) = false := by simp; omega
    rw [noKid, h2, Bool.false_or]
    exact ⟨rfl, rfl⟩
set_option maxHeartbeats 2000000 in
set_option maxRecDepth 100000 in
theorem mayEntries_any (n : Nd) (a1 a2 a3 : Option Addr) (k1 c1 k2 c2 k3 c3 : Nat) (w : World) (r1 : Row w (.slice a1 k1 c1) (TS n.keys)) (r2 : Row w (.slice a2 k2 c2) (TS n.vals)) (r3 : Row w (.slice a3 k3 c3) (IS n.kids)) (hb : n.Bd) :
    Calls Tryd.prog 65 #[.agg #[.bool n.leaf, .slice a1 k1 c1, .slice a2 k2 c2, .slice a3 k3 c3]] w fun e w' => e = .returned (.bool n.ents) ∧ Same w w' := by
  have hbk : k1 ≤ 17592186044416 := by have := hb.k; rw [r1.tl] at this; exact this
  have hbv : k2 ≤ 17592186044416 := by have := hb.v; rw [r2.tl] at this; exact this
  have HK := hidden (fun k w => mayKey_any k w)
  have HV := hidden (fun k w => mayValue_any k w)
  have HW := hidden (same_alloc w (.cells #[.bool n.leaf, .slice a1 k1 c1, .slice a2 k2 c2, .slice a3 k3 c3] 25))
  have R1 := hidden (r1.same HW.out)
  have R2 := hidden (r2.same HW.out)
  have HNK := hidden r1.tl
  have HNV := hidden r2.tl
  clear r1 r2 r3 hb
  go_enter Tryd.func65, Tryd.ntmps65
  go_wp2
  go_loopw [10] (fun i wr => ∃ i' : Nat, i = .int .i64 i' ∧ i' ≤ k1 ∧ (n.keys.take i').all mayK = true ∧ w.alloc (.cells #[.bool n.leaf, .slice a1 k1 c1, .slice a2 k2 c2, .slice a3 k3 c3] 25) = wr) (fun i _ => k1 - (intOf i).toNat)
  case atStart => exact ⟨0, rfl, Nat.zero_le _, rfl, rfl⟩
  case round =>
    obtain ⟨i, rfl, hi, ha, rfl⟩ := hrel
    have HA := hidden ha
    clear ha
    by_cases h1 : i < k1
    · have hil : i < n.keys.length := by rw [HNK.out]; exact h1
      obtain ⟨b, off, rfl, hc⟩ := R1.out.text hil
      obtain ⟨x, hx⟩ : ∃ x, n.keys[i] = x := ⟨_, rfl⟩
      have HX := hidden hx
      rw [hx] at hc
      have hall : Hid ((n.keys.take (i + 1)).all mayK = mayK x) := by
        rw [Hid, List.take_add_one, List.all_append, HA.out, List.getElem?_eq_getElem hil, hx]
        simp
      clear hx
      cases hm : mayK x
      · have HM := hidden hm
        have HKx := HK.out x
        rw [hm] at HKx
        have HKX := hidden HKx
        clear hm HKx
        go_wp2_with (go_at_call 47; refine (HKX.out _).mono ?_; rintro e w1 ⟨rfl, rfl⟩)
        go_returns
        refine ⟨?_, HW.out⟩
        have : n.keys.all mayK = false := by
          rw [Bool.eq_false_iff]
          intro h
          have := List.all_eq_true.1 h x (by rw [← HX.out]; exact List.getElem_mem _)
          rw [HM.out] at this
          cases this
        simp [Nd.ents, this]
      · have HKx := HK.out x
        rw [hm] at HKx hall
        have HKX := hidden HKx
        clear hm HKx
        go_wp2_with (go_at_call 47; refine (HKX.out _).mono ?_; rintro e w1 ⟨rfl, rfl⟩)
        go_roundw
        case rel => exact ⟨i + 1, by go_num, by omega, hall.out, trivial⟩
        case measure => simp [intOf]; omega
    · obtain rfl : i = k1 := by omega
      have hke : Hid (n.keys.all mayK = true) := by rw [Hid, ← HA.out, ← HNK.out, List.take_length]
      go_wp2
      go_loopw [21] (fun k wr => ∃ i' : Nat, k = .int .i64 i' ∧ i' ≤ k2 ∧ (n.vals.take i').all mayV = true ∧ w.alloc (.cells #[.bool n.leaf, .slice a1 i c1, .slice a2 k2 c2, .slice a3 k3 c3] 25) = wr) (fun i _ => k2 - (intOf i).toNat)
      case atStart => exact ⟨0, rfl, Nat.zero_le _, rfl, rfl⟩
      case round =>
        obtain ⟨j, rfl, hj, ha, rfl⟩ := hrel
        have HA2 := hidden ha
        clear ha
        by_cases h2 : j < k2
        · have hil : j < n.vals.length := by rw [HNV.out]; exact h2
          obtain ⟨b, off, rfl, hc⟩ := R2.out.text hil
          obtain ⟨x, hx⟩ : ∃ x, n.vals[j] = x := ⟨_, rfl⟩
          have HX := hidden hx
          rw [hx] at hc
          have hall : Hid ((n.vals.take (j + 1)).all mayV = mayV x) := by
            rw [Hid, List.take_add_one, List.all_append, HA2.out, List.getElem?_eq_getElem hil, hx]
            simp
          clear hx
          cases hm : mayV x
          · have HM := hidden hm
            have HKx := HV.out x
            rw [hm] at HKx
            have HKX := hidden HKx
            clear hm HKx
            go_wp2_with (go_at_call 48; refine (HKX.out _).mono ?_; rintro e w1 ⟨rfl, rfl⟩)
            go_returns
            refine ⟨?_, HW.out⟩
            have : n.vals.all mayV = false := by
              rw [Bool.eq_false_iff]
              intro h
              have := List.all_eq_true.1 h x (by rw [← HX.out]; exact List.getElem_mem _)
              rw [HM.out] at this
              cases this
            simp [Nd.ents, this]
          · have HKx := HV.out x
            rw [hm] at HKx hall
            have HKX := hidden HKx
            clear hm HKx
            go_wp2_with (go_at_call 48; refine (HKX.out _).mono ?_; rintro e w1 ⟨rfl, rfl⟩)
            go_roundw
            case rel => exact ⟨j + 1, by go_num, by omega, hall.out, trivial⟩
            case measure => simp [intOf]; omega
        · obtain rfl : j = k2 := by omega
          have hve : Hid (n.vals.all mayV = true) := by rw [Hid, ← HA2.out, ← HNV.out, List.take_length]
          go_wp2
          go_returns
          refine ⟨?_, HW.out⟩
          simp only [Nd.ents, hke.out, hve.out]
          rfl
end Go.Proofs.YtpjgghalnkfdkaaDoor
namespace Go.Proofs.YtpjgghalnkfdkaaDoor
open Go.RowKit
set_option linter.unusedVariables false
theorem beqN (a b : Nat) : ((a : Int) == (b : Int)) = decide (a = b) := by
  by_cases h : a = b
  · simp [h]
  · rw [beq_eq_false_iff_ne.2 (by omega), decide_eq_false h]
theorem beqN0 (a : Nat) : ((a : Int) == 0) = decide (a = 0) := beqN a 0
theorem beqN1 (a b : Nat) : ((a : Int) == (b : Int) + 1) = decide (a = b + 1) := beqN a (b + 1)
set_option maxHeartbeats 1000000 in
set_option maxRecDepth 100000 in
theorem mayLists_any (n : Nd) (a1 a2 a3 : Option Addr) (k1 c1 k2 c2 k3 c3 : Nat) (w : World) (r1 : Row w (.slice a1 k1 c1) (TS n.keys)) (r2 : Row w (.slice a2 k2 c2) (TS n.vals)) (r3 : Row w (.slice a3 k3 c3) (IS n.kids)) (hb : n.Bd) :
    Calls Tryd.prog 51 #[.agg #[.bool n.leaf, .slice a1 k1 c1, .slice a2 k2 c2, .slice a3 k3 c3]] w fun e w' => e = .returned (.bool n.lists) ∧ Same w w' := by
  have e1 := r1.tl
  have e2 := r2.tl
  have e3 := r3.il
  have hbk : k1 ≤ 17592186044416 := by have := hb.k; rw [r1.tl] at this; exact this
  have HR : Hid (n.lists = if n.leaf then decide (k2 = k1) && decide (k3 = 0) else decide (k2 = 0) && decide (k3 = k1 + 1)) := by rw [Hid, Nd.lists, e1, e2, e3]
  have HW := hidden (same_alloc w (.cells #[.bool n.leaf, .slice a1 k1 c1, .slice a2 k2 c2, .slice a3 k3 c3] 25))
  obtain ⟨lf, hlf⟩ : ∃ lf, n.leaf = lf := ⟨_, rfl⟩
  rw [hlf] at HR HW ⊢
  clear r1 r2 r3 hb hlf e1 e2 e3
  cases lf
  · by_cases h : k2 = 0
    · subst h
      go_enter Tryd.func51, Tryd.ntmps51
      go_wp2
      go_returns
      refine ⟨?_, HW.out⟩
      rw [HR.out]
      simp [beqN1]
    · have h1 : ¬ (k2 : Int) = 0 := by omega
      have h2 : ((k2 : Int) == 0) = false := beq_eq_false_iff_ne.2 (by omega)
      go_enter Tryd.func51, Tryd.ntmps51
      go_wp2
      go_returns
      refine ⟨?_, HW.out⟩
      rw [HR.out]
      simp [h]
  · by_cases h : k2 = k1
    · subst h
      go_enter Tryd.func51, Tryd.ntmps51
      go_wp2
      go_returns
      refine ⟨?_, HW.out⟩
      rw [HR.out]
      simp [beqN0]
    · have h1 : ¬ (k2 : Int) = (k1 : Int) := by omega
      have h2 : ((k2 : Int) == (k1 : Int)) = false := beq_eq_false_iff_ne.2 (by omega)
      go_enter Tryd.func51, Tryd.ntmps51
      go_wp2
      go_returns
      refine ⟨?_, HW.out⟩
      rw [HR.out]
      simp [h]
set_option maxHeartbeats 2000000 in
set_option maxRecDepth 100000 in
theorem rise_any (l : List ByteArray) (a : Option Addr) (k c : Nat) (w : World) (r : Row w (.slice a k c) (TS l)) (hb : l.length ≤ 17592186044416) :
    Calls Tryd.prog 56 #[.slice a k c] w fun e w' => e = .returned (.bool (rises l)) ∧ Same w w' := by
  have e1 := r.tl
  rw [e1] at hb
  have E1 := hidden e1
  have R := hidden r
  clear e1 r
  go_enter Tryd.func56, Tryd.ntmps56
  go_wp2
  go_loopw [3] (fun i wr => ∃ i' : Nat, i = .int .i64 i' ∧ 1 ≤ i' ∧ (i' ≤ k ∨ i' = 1) ∧ (∀ t (h : t + 1 < l.length), t + 1 < i' → ltS l[t] l[t + 1] = true) ∧ Same w wr) (fun i _ => k - (intOf i).toNat)
  case atStart => exact ⟨1, rfl, Nat.le_refl _, .inr rfl, (fun t h h1 => by omega), Kept.refl _ _⟩
  case round =>
    obtain ⟨i, rfl, hi1, hi, ha, hsm⟩ := hrel
    have HA := hidden ha
    have HSM := hidden hsm
    clear ha hsm
    by_cases h1 : i < k
    · have hil : i < l.length := by rw [E1.out]; exact h1
      obtain ⟨b, off, rfl, hc⟩ := (R.out.same HSM.out).text hil
      obtain ⟨p, hp⟩ : ∃ p, i = p + 1 := ⟨i - 1, by omega⟩
      have HP := hidden hp
      have hpl : p < l.length := by omega
      have hc2 := (R.out.same HSM.out).textAt hpl
      obtain ⟨x, hx⟩ : ∃ x, l[i] = x := ⟨_, rfl⟩
      obtain ⟨y, hy⟩ : ∃ y, l[p] = y := ⟨_, rfl⟩
      rw [hx] at hc
      rw [hy] at hc2
      have HX := hidden hx
      have HY := hidden hy
      clear hx hy
      have q0 : (i : Int) < (k : Int) := by omega
      have q1 : (i : Int) - 1 = (p : Int) := by omega
      have q2 : IntKind.i64.wrap (p : Int) = (p : Int) := wrapN (by omega) (by omega)
      have q4 : (0 : Int) ≤ (p : Int) := Int.natCast_nonneg _
      have q5 : (0 : Int) ≤ (i : Int) := Int.natCast_nonneg _
      have q3 : (p : Int) < (k : Int) := by omega
      clear hp
      cases hm : ltS y x
      · have HM := hidden hm
        have hfin : Hid (rises l = false) := by
          rw [Hid, Bool.eq_false_iff]
          intro h
          have hi9 := HP.out
          subst hi9
          have h3 := rises_at.1 h p hil
          rw [HX.out, HY.out, HM.out] at h3
          cases h3
        rcases lt_no hm with hq | hq
        · obtain ⟨f1, f2, f3, f4⟩ := lt_yes hq
          clear hm hq
          go_wp2
          go_quiet (fail)
          go_wp2
          go_returns
          exact ⟨by rw [hfin.out]; rfl, HSM.out.trans ((Kept.refl _ _).drewN _)⟩
        · obtain ⟨f1, f2⟩ := lt_self x
          subst hq
          clear hm
          go_wp2
          go_quiet (fail)
          go_wp2
          go_returns
          exact ⟨by rw [hfin.out]; rfl, HSM.out.trans ((Kept.refl _ _).drewN _)⟩
      · have HM := hidden hm
        obtain ⟨f1, f2, f3, f4⟩ := lt_yes hm
        clear hm
        go_wp2
        go_quiet (fail)
        go_wp2
        go_roundw
        case rel =>
          refine ⟨i + 1, by go_num, by omega, .inl (by omega), (fun t h h2 => ?_), HSM.out.trans ((Kept.refl _ _).drewN _)⟩
          have hi9 := HP.out
          rcases Nat.lt_or_ge (t + 1) i with h3 | h3
          · exact HA.out t h h3
          · obtain rfl : t = p := by omega
            subst hi9
            rw [HX.out, HY.out]
            exact HM.out
        case measure => simp [intOf]; omega
    · have q0 : ¬ (i : Int) < (k : Int) := by omega
      go_wp2
      go_returns
      refine ⟨?_, HSM.out⟩
      have : rises l = true := rises_at.2 (fun t h => HA.out t h (by rw [E1.out] at h; omega))
      rw [this]
      rfl
set_option maxHeartbeats 2000000 in
set_option maxRecDepth 100000 in
theorem indexFunc_any (l : List Int) (a : Option Addr) (k c : Nat) (w : World) (r : Row w (.slice a k c) (IS l)) (hb : l.length ≤ 35184372088832) :
    Calls Tryd.prog 88 #[.slice a k c, .func (.func 67) #[] #[]] w fun e w' => ∃ z : Int, e = .returned (.int .i64 z) ∧ decide (0 ≤ z) = l.any noKid ∧ w = w' := by
  have e1 := r.il
  rw [e1] at hb
  have E1 := hidden e1
  have R := hidden r
  have HN := hidden (fun z w => noKid_any z w)
  clear e1 r
  go_enter Tryd.func88, Tryd.ntmps88
  go_wp2
  go_loopw [8] (fun i wr => ∃ i' : Nat, i = .int .i64 i' ∧ i' ≤ k ∧ (l.take i').any noKid = false ∧ w = wr) (fun i _ => k - (intOf i).toNat)
  case atStart => exact ⟨0, rfl, Nat.zero_le _, rfl, rfl⟩
  case round =>
    obtain ⟨i, rfl, hi, ha, rfl⟩ := hrel
    have HA := hidden ha
    clear ha
    by_cases h1 : i < k
    · have hil : i < l.length := by rw [E1.out]; exact h1
      obtain ⟨b, off, rfl, hc⟩ := R.out.int hil
      obtain ⟨x, hx⟩ : ∃ x, l[i] = x := ⟨_, rfl⟩
      have HX := hidden hx
      rw [hx] at hc
      have hall : Hid ((l.take (i + 1)).any noKid = noKid x) := by
        rw [Hid, List.take_add_one, List.any_append, HA.out, List.getElem?_eq_getElem hil, hx]
        simp
      clear hx
      cases hm : noKid x
      · have HKx := HN.out x
        rw [hm] at HKx hall
        have HKX := hidden HKx
        clear hm HKx
        go_wp2_with (go_at_call 67; refine (HKX.out _).mono ?_; rintro e w1 ⟨rfl, rfl⟩)
        go_roundw
        case rel => exact ⟨i + 1, by go_num, by omega, hall.out, trivial⟩
        case measure => simp [intOf]; omega
      · have HM := hidden hm
        have HKx := HN.out x
        rw [hm] at HKx
        have HKX := hidden HKx
        clear hm HKx
        go_wp2_with (go_at_call 67; refine (HKX.out _).mono ?_; rintro e w1 ⟨rfl, rfl⟩)
        go_returns
        refine ⟨_, rfl, ?_, rfl⟩
        rw [List.any_eq_true.2 ⟨x, by rw [← HX.out]; exact List.getElem_mem _, HM.out⟩]
        simp
    · obtain rfl : i = k := by omega
      go_wp2
      go_returns
      refine ⟨_, rfl, ?_, rfl⟩
      have := HA.out
      rw [← E1.out, List.take_length] at this
      rw [this]
      rfl
set_option maxHeartbeats 2000000 in
set_option maxRecDepth 100000 in
theorem containsFunc_any (l : List Int) (a : Option Addr) (k c : Nat) (w : World) (r : Row w (.slice a k c) (IS l)) (hb : l.length ≤ 35184372088832) :
    Calls Tryd.prog 66 #[.slice a k c, .func (.func 67) #[] #[]] w fun e w' => e = .returned (.bool (l.any noKid)) ∧ w = w' := by
  have HI := hidden (indexFunc_any l a k c w r hb)
  clear r hb
  go_enter Tryd.func66, Tryd.ntmps66
  go_wp2_with (go_at_call 88; refine HI.out.mono ?_; rintro e w1 ⟨z, rfl, hz, rfl⟩; have HZ := hidden hz; clear hz)
  go_returns
  refine ⟨?_, rfl⟩
  rw [← HZ.out]
  simp [go_sem]
def Nd.part (n : Nd) : Int := if n.ents then (if n.shape then 0 else 90) else 91
def Nd.chk (n : Nd) : Int := if n.ents then (if n.shape && (n.leaf || decide (n.keys.length ≠ 0)) then 0 else 90) else 91
set_option maxHeartbeats 2000000 in
set_option maxRecDepth 100000 in
theorem checkPart_any (n : Nd) (a1 a2 a3 : Option Addr) (k1 c1 k2 c2 k3 c3 : Nat) (w : World) (r1 : Row w (.slice a1 k1 c1) (TS n.keys)) (r2 : Row w (.slice a2 k2 c2) (TS n.vals)) (r3 : Row w (.slice a3 k3 c3) (IS n.kids)) (hb : n.Bd) :
    Calls Tryd.prog 39 #[.agg #[.bool n.leaf, .slice a1 k1 c1, .slice a2 k2 c2, .slice a3 k3 c3]] w fun e w' => e = .returned (.int .i64 n.part) ∧ Same w w' := by
  have K0 := hidden (same_alloc w (.cells #[.bool n.leaf, .slice a1 k1 c1, .slice a2 k2 c2, .slice a3 k3 c3] 25))
  have HE := hidden (fun W (k : Same w W) => mayEntries_any n a1 a2 a3 k1 c1 k2 c2 k3 c3 W (r1.same k) (r2.same k) (r3.same k) hb)
  have HL := hidden (fun W (k : Same w W) => mayLists_any n a1 a2 a3 k1 c1 k2 c2 k3 c3 W (r1.same k) (r2.same k) (r3.same k) hb)
  have HC := hidden (fun W (k : Same w W) => containsFunc_any n.kids a3 k3 c3 W (r3.same k) hb.i)
  have HR := hidden (fun W (k : Same w W) => rise_any n.keys a1 k1 c1 W (r1.same k) hb.k)
  have HP : Hid (n.part = if n.ents then (if n.lists && !n.kids.any noKid && rises n.keys then 0 else 90) else 91) := rfl
  clear r1 r2 r3 hb
  generalize n.part = z at *
  generalize n.ents = t1 at *
  generalize n.lists = t2 at *
  generalize n.kids.any noKid = t3 at *
  generalize rises n.keys = t4 at *
  cases t1
  · go_enter Tryd.func39, Tryd.ntmps39
    go_wp2_with (go_at_call 65; refine (HE.out _ K0.out).mono ?_; rintro e w1 ⟨rfl, k1'⟩; have K1 := hidden (K0.out.trans k1'); clear k1')
    go_returns
    exact ⟨by rw [HP.out]; rfl, K1.out⟩
  · cases t2
    · go_enter Tryd.func39, Tryd.ntmps39
      go_wp2_with (first
        | (go_at_call 65; refine (HE.out _ K0.out).mono ?_; rintro e w1 ⟨rfl, k1'⟩; have b0 : w1.heap[w.heap.size]? = some (.cells #[.bool n.leaf, .slice a1 k1 c1, .slice a2 k2 c2, .slice a3 k3 c3] 25 (0, 0)) := blk_kept k1' (fun h => h) (blk_new _ _); have c0 : w1.cell? ⟨w.heap.size, 0, none⟩ = some (.bool n.leaf) := blk_cell b0; have c1' : w1.cell? ⟨w.heap.size, 1, none⟩ = some (.slice a1 k1 c1) := blk_cell b0; have c2' : w1.cell? ⟨w.heap.size, 2, none⟩ = some (.slice a2 k2 c2) := blk_cell b0; have c3' : w1.cell? ⟨w.heap.size, 3, none⟩ = some (.slice a3 k3 c3) := blk_cell b0; have K1 := hidden (K0.out.trans k1'); clear k1')
        | (go_at_call 51; refine (HL.out _ K1.out).mono ?_; rintro e w2 ⟨rfl, k2'⟩; have K2 := hidden (K1.out.trans k2'); clear k2'))
      go_returns
      exact ⟨by rw [HP.out]; rfl, K2.out⟩
    · cases t3
      · cases t4
        all_goals
          go_enter Tryd.func39, Tryd.ntmps39
          go_wp2_with (first
            | (go_at_call 65; refine (HE.out _ K0.out).mono ?_; rintro e w1 ⟨rfl, k1'⟩; have b0 : w1.heap[w.heap.size]? = some (.cells #[.bool n.leaf, .slice a1 k1 c1, .slice a2 k2 c2, .slice a3 k3 c3] 25 (0, 0)) := blk_kept k1' (fun h => h) (blk_new _ _); have c0 : w1.cell? ⟨w.heap.size, 0, none⟩ = some (.bool n.leaf) := blk_cell b0; have c1' : w1.cell? ⟨w.heap.size, 1, none⟩ = some (.slice a1 k1 c1) := blk_cell b0; have c2' : w1.cell? ⟨w.heap.size, 2, none⟩ = some (.slice a2 k2 c2) := blk_cell b0; have c3' : w1.cell? ⟨w.heap.size, 3, none⟩ = some (.slice a3 k3 c3) := blk_cell b0; have B0 := hidden b0; have K1 := hidden (K0.out.trans k1'); clear k1' b0)
            | (go_at_call 51; refine (HL.out _ K1.out).mono ?_; rintro e w2 ⟨rfl, k2'⟩; have b1 := blk_kept k2' (fun h => h) B0.out; have d1 : w2.cell? ⟨w.heap.size, 1, none⟩ = some (.slice a1 k1 c1) := blk_cell b1; have d3 : w2.cell? ⟨w.heap.size, 3, none⟩ = some (.slice a3 k3 c3) := blk_cell b1; have K2 := hidden (K1.out.trans k2'); clear k2' b1)
            | (go_at_call 66; refine (HC.out _ K2.out).mono ?_; rintro e w3 ⟨rfl, rfl⟩)
            | (go_at_call 56; refine (HR.out _ K2.out).mono ?_; rintro e w4 ⟨rfl, k4'⟩; have K4 := hidden (K2.out.trans k4'); clear k4'))
          go_returns
          exact ⟨by rw [HP.out]; rfl, K4.out⟩
      · go_enter Tryd.func39, Tryd.ntmps39
        go_wp2_with (first
          | (go_at_call 65; refine (HE.out _ K0.out).mono ?_; rintro e w1 ⟨rfl, k1'⟩; have b0 : w1.heap[w.heap.size]? = some (.cells #[.bool n.leaf, .slice a1 k1 c1, .slice a2 k2 c2, .slice a3 k3 c3] 25 (0, 0)) := blk_kept k1' (fun h => h) (blk_new _ _); have c0 : w1.cell? ⟨w.heap.size, 0, none⟩ = some (.bool n.leaf) := blk_cell b0; have c1' : w1.cell? ⟨w.heap.size, 1, none⟩ = some (.slice a1 k1 c1) := blk_cell b0; have c2' : w1.cell? ⟨w.heap.size, 2, none⟩ = some (.slice a2 k2 c2) := blk_cell b0; have c3' : w1.cell? ⟨w.heap.size, 3, none⟩ = some (.slice a3 k3 c3) := blk_cell b0; have B0 := hidden b0; have K1 := hidden (K0.out.trans k1'); clear k1' b0)
          | (go_at_call 51; refine (HL.out _ K1.out).mono ?_; rintro e w2 ⟨rfl, k2'⟩; have b1 := blk_kept k2' (fun h => h) B0.out; have d3 : w2.cell? ⟨w.heap.size, 3, none⟩ = some (.slice a3 k3 c3) := blk_cell b1; have K2 := hidden (K1.out.trans k2'); clear k2' b1)
          | (go_at_call 66; refine (HC.out _ K2.out).mono ?_; rintro e w3 ⟨rfl, rfl⟩))
        go_returns
        exact ⟨by rw [HP.out]; rfl, K2.out⟩
set_option maxHeartbeats 2000000 in
set_option maxRecDepth 100000 in
theorem check_any (n : Nd) (a1 a2 a3 : Option Addr) (k1 c1 k2 c2 k3 c3 : Nat) (w : World) (r1 : Row w (.slice a1 k1 c1) (TS n.keys)) (r2 : Row w (.slice a2 k2 c2) (TS n.vals)) (r3 : Row w (.slice a3 k3 c3) (IS n.kids)) (hb : n.Bd) :
    Calls Tryd.prog 13 #[.agg #[.bool n.leaf, .slice a1 k1 c1, .slice a2 k2 c2, .slice a3 k3 c3]] w fun e w' => e = .returned (.int .i64 n.chk) ∧ Same w w' := by
  have K0 := hidden (same_alloc w (.cells #[.bool n.leaf, .slice a1 k1 c1, .slice a2 k2 c2, .slice a3 k3 c3] 25))
  have HP := hidden (fun W (k : Same w W) => checkPart_any n a1 a2 a3 k1 c1 k2 c2 k3 c3 W (r1.same k) (r2.same k) (r3.same k) hb)
  have hz : n.part = 0 ∨ n.part = 90 ∨ n.part = 91 := by unfold Nd.part; split <;> (try split) <;> simp
  have hcp : Hid (n.chk = if n.part = 0 then (if n.leaf || decide (k1 ≠ 0) then 0 else 90) else n.part) := by
    rw [Hid, Nd.chk, Nd.part, ← r1.tl]
    cases n.ents <;> cases n.shape <;> cases n.leaf <;> simp
  clear r1 r2 r3 hb
  generalize n.part = z at *
  generalize n.chk = y at *
  rcases hz with rfl | rfl | rfl
  · obtain ⟨lf, hlf⟩ : ∃ lf, n.leaf = lf := ⟨_, rfl⟩
    rw [hlf] at hcp K0 HP ⊢
    clear hlf
    cases lf
    · by_cases h0 : k1 = 0
      · subst h0
        go_enter Tryd.func13, Tryd.ntmps13
        go_wp2_with (go_at_call 39; refine (HP.out _ K0.out).mono ?_; rintro e w1 ⟨rfl, k1'⟩; have b0 : w1.heap[w.heap.size]? = some (.cells #[.bool false, .slice a1 0 c1, .slice a2 k2 c2, .slice a3 k3 c3] 25 (0, 0)) := blk_kept k1' (fun h => h) (blk_new _ _); have d0 : w1.cell? ⟨w.heap.size, 0, none⟩ = some (.bool false) := blk_cell b0; have d1 : w1.cell? ⟨w.heap.size, 1, none⟩ = some (.slice a1 0 c1) := blk_cell b0; have K1 := hidden (K0.out.trans k1'); clear k1' b0)
        go_returns
        exact ⟨by rw [hcp.out]; rfl, K1.out⟩
      · have h1 : ¬ (k1 : Int) = 0 := by omega
        have h2 : ((k1 : Int) == 0) = false := beq_eq_false_iff_ne.2 h1
        go_enter Tryd.func13, Tryd.ntmps13
        go_wp2_with (go_at_call 39; refine (HP.out _ K0.out).mono ?_; rintro e w1 ⟨rfl, k1'⟩; have b0 : w1.heap[w.heap.size]? = some (.cells #[.bool false, .slice a1 k1 c1, .slice a2 k2 c2, .slice a3 k3 c3] 25 (0, 0)) := blk_kept k1' (fun h => h) (blk_new _ _); have d0 : w1.cell? ⟨w.heap.size, 0, none⟩ = some (.bool false) := blk_cell b0; have d1 : w1.cell? ⟨w.heap.size, 1, none⟩ = some (.slice a1 k1 c1) := blk_cell b0; have K1 := hidden (K0.out.trans k1'); clear k1' b0)
        go_returns
        refine ⟨?_, K1.out⟩
        rw [hcp.out]
        simp [h0]
    · go_enter Tryd.func13, Tryd.ntmps13
      go_wp2_with (go_at_call 39; refine (HP.out _ K0.out).mono ?_; rintro e w1 ⟨rfl, k1'⟩; have b0 : w1.heap[w.heap.size]? = some (.cells #[.bool true, .slice a1 k1 c1, .slice a2 k2 c2, .slice a3 k3 c3] 25 (0, 0)) := blk_kept k1' (fun h => h) (blk_new _ _); have d0 : w1.cell? ⟨w.heap.size, 0, none⟩ = some (.bool true) := blk_cell b0; have K1 := hidden (K0.out.trans k1'); clear k1' b0)
      go_returns
      exact ⟨by rw [hcp.out]; rfl, K1.out⟩
  all_goals
    go_enter Tryd.func13, Tryd.ntmps13
    go_wp2_with (go_at_call 39; refine (HP.out _ K0.out).mono ?_; rintro e w1 ⟨rfl, k1'⟩; have K1 := hidden (K0.out.trans k1'); clear k1')
    go_returns
    exact ⟨by rw [hcp.out]; rfl, K1.out⟩
end Go.Proofs.YtpjgghalnkfdkaaDoor
namespace Go.Proofs.YtpjgghalnkfdkaaDoor
open Go.RowKit
set_option linter.unusedVariables false
/-- Is it ahead of a key's place? -/
def ahead (lf : Bool) (key k : ByteArray) : Bool := ltS k key || (!lf && k.toList == key.toList)
def Nd.cnt (n : Nd) (key : ByteArray) : Nat := n.keys.countP (ahead n.leaf key)
def Nd.has (n : Nd) (key : ByteArray) : Bool := n.leaf && (match n.keys[n.cnt key]? with | some k => k.toList == key.toList | none => false)
theorem cnt_step (l : List ByteArray) (f : ByteArray → Bool) {i : Nat} (h : i < l.length) : (l.take (i + 1)).countP f = (l.take i).countP f + (if f l[i] then 1 else 0) := by
  rw [List.take_add_one, List.countP_append, List.getElem?_eq_getElem h]
  simp [List.countP_cons]
set_option maxHeartbeats 4000000 in
set_option maxRecDepth 100000 in
theorem find_any (n : Nd) (a1 a2 a3 : Option Addr) (k1 c1 k2 c2 k3 c3 : Nat) (key : ByteArray) (w : World) (r1 : Row w (.slice a1 k1 c1) (TS n.keys)) (r2 : Row w (.slice a2 k2 c2) (TS n.vals)) (r3 : Row w (.slice a3 k3 c3) (IS n.kids)) (hb : n.Bd) :
    Calls Tryd.prog 20 #[.agg #[.bool n.leaf, .slice a1 k1 c1, .slice a2 k2 c2, .slice a3 k3 c3], .string key] w fun e w' => e = .returned (.tuple #[.int .i64 (n.cnt key : Nat), .bool (n.has key)]) ∧ Same w w' := by
  have hbk : k1 ≤ 17592186044416 := by have := hb.k; rw [r1.tl] at this; exact this
  have K0 := hidden (same_alloc w (.cells #[.bool n.leaf, .slice a1 k1 c1, .slice a2 k2 c2, .slice a3 k3 c3] 25))
  have R1 := hidden (r1.same K0.out)
  have E1 := hidden r1.tl
  have HC : Hid (n.keys.countP (ahead n.leaf key) = n.cnt key) := rfl
  have HH : Hid (n.has key = (n.leaf && (match n.keys[n.cnt key]? with | some k => k.toList == key.toList | none => false))) := rfl
  generalize n.cnt key = cn at *
  generalize n.has key = hs at *
  obtain ⟨lf, hlf⟩ : ∃ lf, n.leaf = lf := ⟨_, rfl⟩
  rw [hlf] at K0 R1 HC HH ⊢
  clear r1 r2 r3 hb hlf
  have hcn : cn ≤ k1 := by rw [← HC.out, ← E1.out]; exact List.countP_le_length
  go_enter Tryd.func20, Tryd.ntmps20
  go_wp2
  go_loopw [6, 12] (fun p i wr => ∃ (i' p' : Nat), p = .int .i64 p' ∧ i = .int .i64 i' ∧ i' ≤ k1 ∧ p' ≤ i' ∧ (n.keys.take i').countP (ahead lf key) = p' ∧ w.alloc (.cells #[.bool lf, .slice a1 k1 c1, .slice a2 k2 c2, .slice a3 k3 c3] 25) = wr) (fun _ i _ => k1 - (intOf i).toNat)
  case atStart => exact ⟨0, 0, rfl, rfl, Nat.zero_le _, Nat.le_refl _, rfl, rfl⟩
  case round =>
    obtain ⟨i, p, rfl, rfl, hi, hp, ha, rfl⟩ := hrel
    have HA := hidden ha
    clear ha
    by_cases h1 : i < k1
    · have hil : i < n.keys.length := by rw [E1.out]; exact h1
      obtain ⟨b, off, rfl, hc⟩ := R1.out.text hil
      have hst := cnt_step n.keys (ahead lf key) hil
      rw [HA.out] at hst
      obtain ⟨x, hx⟩ : ∃ x, n.keys[i] = x := ⟨_, rfl⟩
      rw [hx] at hc hst
      clear hx
      have HST := hidden hst
      clear hst
      cases hm : ltS x key
      · have f1 := less_of hm
        cases he : (x.toList == key.toList)
        · have hah : Hid (ahead lf key x = false) := by rw [Hid, ahead, hm, he]; simp
          clear hm
          go_wp2
          go_roundw
          case rel => exact ⟨i + 1, p, rfl, by go_num, by omega, by omega, by rw [HST.out, hah.out]; rfl, trivial⟩
          case measure => simp [intOf]; omega
        · cases lf
          · have hah : Hid (ahead false key x = true) := by rw [Hid, ahead, hm, he]; rfl
            clear hm
            go_wp2
            go_roundw
            case rel => exact ⟨i + 1, p + 1, by go_num, by go_num, by omega, by omega, by rw [HST.out, hah.out]; rfl, trivial⟩
            case measure => simp [intOf]; omega
          · have hah : Hid (ahead true key x = false) := by rw [Hid, ahead, hm]; rfl
            clear hm
            go_wp2
            go_roundw
            case rel => exact ⟨i + 1, p, rfl, by go_num, by omega, by omega, by rw [HST.out, hah.out]; rfl, trivial⟩
            case measure => simp [intOf]; omega
      · have f1 := less_of hm
        have hah : Hid (ahead lf key x = true) := by rw [Hid, ahead, hm]; rfl
        clear hm
        go_wp2
        go_roundw
        case rel => exact ⟨i + 1, p + 1, by go_num, by go_num, by omega, by omega, by rw [HST.out, hah.out]; rfl, trivial⟩
        case measure => simp [intOf]; omega
    · obtain rfl : i = k1 := by omega
      have hpc : p = cn := by rw [← HA.out, ← HC.out, ← E1.out, List.take_length]
      subst hpc
      have q1 : ¬ (i : Int) < (i : Int) := by omega
      cases lf
      · go_wp2
        go_quiet (fail)
        go_wp2
        go_returns
        exact ⟨by rw [HH.out]; rfl, K0.out.trans ((Kept.refl _ _).drewN _)⟩
      · by_cases h2 : p < i
        · have h3 : decide ((p : Int) < (i : Int)) = true := by simp; omega
          have h4 : decide (p < i) = true := by simp; omega
          have h5 : (p : Int) < (i : Int) := by omega
          have q0 : (0 : Int) ≤ (p : Int) := Int.natCast_nonneg _
          have hil : p < n.keys.length := by rw [E1.out]; exact h2
          obtain ⟨b, off, rfl, hc⟩ := R1.out.text hil
          obtain ⟨x, hx⟩ : ∃ x, n.keys[p] = x := ⟨_, rfl⟩
          have hhs : Hid (hs = (x.toList == key.toList)) := by rw [Hid, HH.out, List.getElem?_eq_getElem hil, hx]; rfl
          rw [hx] at hc
          clear hx
          generalize he : (x.toList == key.toList) = t at *
          go_wp2
          go_quiet (fail)
          go_wp2
          go_returns
          exact ⟨by rw [hhs.out]; rfl, K0.out.trans ((Kept.refl _ _).drewN _)⟩
        · have h3 : decide ((p : Int) < (i : Int)) = false := by simp; omega
          have h4 : decide (p < i) = false := by simp; omega
          have h5 : ¬ (p : Int) < (i : Int) := by omega
          have hhs : Hid (hs = false) := by rw [Hid, HH.out, List.getElem?_eq_none (by rw [E1.out]; omega)]; rfl
          go_wp2
          go_quiet (fail)
          go_wp2
          go_returns
          exact ⟨by rw [hhs.out]; rfl, K0.out.trans ((Kept.refl _ _).drewN _)⟩
set_option maxHeartbeats 2000000 in
set_option maxRecDepth 100000 in
theorem index_any (key : ByteArray) (l : List ByteArray) (a : Option Addr) (k c : Nat) (w : World) (r : Row w (.slice a k c) (TS l)) (hb : l.length ≤ 17592186044416) :
    Calls Tryd.prog 80 #[.slice a k c, .string key] w fun e w' => ∃ z : Int, e = .returned (.int .i64 z) ∧ decide (0 ≤ z) = l.any (fun x => x.toList == key.toList) ∧ Same w w' := by
  have e1 := r.tl
  rw [e1] at hb
  have E1 := hidden e1
  have R := hidden r
  clear e1 r
  go_enter Tryd.func80, Tryd.ntmps80
  go_wp2
  go_loopw [8] (fun i wr => ∃ i' : Nat, i = .int .i64 i' ∧ i' ≤ k ∧ (l.take i').any (fun x => x.toList == key.toList) = false ∧ Same w wr) (fun i _ => k - (intOf i).toNat)
  case atStart => exact ⟨0, rfl, Nat.zero_le _, rfl, Kept.refl _ _⟩
  case round =>
    obtain ⟨i, rfl, hi, ha, hsm⟩ := hrel
    have HA := hidden ha
    have HSM := hidden hsm
    clear ha hsm
    by_cases h1 : i < k
    · have hil : i < l.length := by rw [E1.out]; exact h1
      obtain ⟨b, off, rfl, hc⟩ := (R.out.same HSM.out).text hil
      obtain ⟨x, hx⟩ : ∃ x, l[i] = x := ⟨_, rfl⟩
      have HX := hidden hx
      rw [hx] at hc
      have hall : Hid ((l.take (i + 1)).any (fun x => x.toList == key.toList) = (x.toList == key.toList)) := by
        rw [Hid, List.take_add_one, List.any_append, HA.out, List.getElem?_eq_getElem hil, hx]
        simp
      clear hx
      have q0 : (0 : Int) ≤ (i : Int) := Int.natCast_nonneg _
      have q1 : (i : Int) < (k : Int) := by omega
      cases hm : (x.toList == key.toList)
      · have hm2 : (key.toList == x.toList) = false := by rw [beq_eq_false_iff_ne] at hm ⊢; exact fun e => hm e.symm
        rw [hm] at hall
        go_wp2
        go_roundw
        case rel => exact ⟨i + 1, by go_num, by omega, hall.out, HSM.out⟩
        case measure => simp [intOf]; omega
      · have hm2 : (key.toList == x.toList) = true := by rw [beq_iff_eq] at hm ⊢; exact hm.symm
        have HM := hidden hm
        clear hm
        go_wp2
        go_returns
        refine ⟨_, rfl, ?_, HSM.out⟩
        rw [List.any_eq_true.2 ⟨x, by rw [← HX.out]; exact List.getElem_mem _, HM.out⟩]
        simp
    · obtain rfl : i = k := by omega
      go_wp2
      go_returns
      refine ⟨_, rfl, ?_, HSM.out⟩
      have := HA.out
      rw [← E1.out, List.take_length] at this
      rw [this]
      rfl
set_option maxHeartbeats 2000000 in
set_option maxRecDepth 100000 in
theorem contains_any (key : ByteArray) (l : List ByteArray) (a : Option Addr) (k c : Nat) (w : World) (r : Row w (.slice a k c) (TS l)) (hb : l.length ≤ 17592186044416) :
    Calls Tryd.prog 52 #[.slice a k c, .string key] w fun e w' => e = .returned (.bool (l.any (fun x => x.toList == key.toList))) ∧ Same w w' := by
  have HI := hidden (index_any key l a k c w r hb)
  clear r hb
  generalize l.any (fun x => x.toList == key.toList) = t at *
  go_enter Tryd.func52, Tryd.ntmps52
  go_wp2_with (go_at_call 80; refine HI.out.mono ?_; rintro e w1 ⟨z, rfl, hz, k1⟩; have HZ := hidden hz; have K1 := hidden k1; clear hz k1)
  go_returns
  refine ⟨?_, K1.out⟩
  rw [← HZ.out]
  simp [go_sem]
end Go.Proofs.YtpjgghalnkfdkaaDoor
namespace Go.Proofs.YtpjgghalnkfdkaaDoor
open Go.RowKit
set_option linter.unusedVariables false
theorem infoS : (Tryd.prog.info? 9).map (fun i => (i.zero, i.size, i.bytes)) = some (some (.string ⟨#[]⟩), 1, 16) := by kernel_rfl
theorem infoI : (Tryd.prog.info? 3).map (fun i => (i.zero, i.size, i.bytes)) = some (some (.int .i64 0), 1, 8) := by kernel_rfl
set_option maxHeartbeats 1000000 in
set_option maxRecDepth 100000 in
theorem cloneS (l : List ByteArray) (a : Option Addr) (k c : Nat) (w : World) (r : Row w (.slice a k c) (TS l)) (hb : l.length ≤ 8796093022208) :
    Calls Tryd.prog 76 #[.slice a k c] w fun e w' => ∃ u, e = .returned u ∧ ∃ a' c', u = .slice a' k c' ∧ w'.ownsRow w.heap.size 9 1 (.slice a' k c') k (TS l) ∧ Same w w' := by
  obtain ⟨i0, hi, hz0, hz1, hz2⟩ := info_parts infoS
  have e1 := r.tl
  rw [e1] at hb
  cases a with
  | none =>
    have hk : k = 0 := by
      rcases Nat.eq_zero_or_pos k with h | h
      · exact h
      · obtain ⟨b, off, e, _⟩ := r.at (by rw [TS_len]; omega)
        cases e
    subst hk
    obtain rfl : l = [] := List.eq_nil_of_length_eq_zero e1
    have hnil : ∀ W : World, (binOp .eql 22 (.slice none 0 c) (.slice none 0 0)).run Tryd.prog W = .ok (.bool true) W := fun W => by
      first | rfl | simp [binOp, go_sem]
    clear r e1
    go_enter Tryd.func76, Tryd.ntmps76
    go_wp2
    go_returns
    exact ⟨_, rfl, none, 0, rfl, World.ownsRow_nil _ _ _ _, Kept.refl _ _⟩
  | some a =>
    have hnil : ∀ W : World, (binOp .eql 22 (.slice (some a) k c) (.slice none 0 0)).run Tryd.prog W = .ok (.bool false) W := fun W => by
      first | rfl | simp [binOp, go_sem]
    have HB := hidden r
    have m1 : Hid (0 + k ≤ maxLen) := by rw [Hid]; unfold maxLen; omega
    have m2 : Hid ((0 + k) * 16 ≤ 140737488355328) := by rw [Hid]; omega
    have E1 : Hid ((TS l).length = k * 1) := by rw [Hid, TS_len, e1, Nat.mul_one]
    clear r e1
    go_enter Tryd.func76, Tryd.ntmps76
    go_wp2_with (refine wpList_append_any rfl _ _ 22 rfl w.heap.size 9 i0 (.string ⟨#[]⟩) 1 16 Tryd.underlying22 hi hz0 hz1 hz2 rfl (by decide) _ 0 0 [] rfl (World.ownsRow_made w #[] 0 (Nat.le_refl _) (by decide) (by decide)) (some a) k c (TS l) rfl E1.out ((HB.out.same (same_alloc _ _)).lies) (TS_one l) m1.out m2.out (by simp) ?_; intro a1 c1 w1 ho1 hg1)
    rw [Nat.zero_add, List.nil_append] at ho1
    go_returns
    exact ⟨_, rfl, a1, c1, by simp, ho1, ((Kept.refl (fun _ => False) w).alloc _).grown hg1 (fun k hk hl => by simp [Value.ownBlock] at hk; omega)⟩
set_option maxHeartbeats 1000000 in
set_option maxRecDepth 100000 in
theorem cloneI (l : List Int) (a : Option Addr) (k c : Nat) (w : World) (r : Row w (.slice a k c) (IS l)) (hb : l.length ≤ 17592186044416) :
    Calls Tryd.prog 77 #[.slice a k c] w fun e w' => ∃ u, e = .returned u ∧ ∃ a' c', u = .slice a' k c' ∧ w'.ownsRow w.heap.size 3 1 (.slice a' k c') k (IS l) ∧ Same w w' := by
  obtain ⟨i0, hi, hz0, hz1, hz2⟩ := info_parts infoI
  have e1 := r.il
  rw [e1] at hb
  cases a with
  | none =>
    have hk : k = 0 := by
      rcases Nat.eq_zero_or_pos k with h | h
      · exact h
      · obtain ⟨b, off, e, _⟩ := r.at (by rw [IS_len]; omega)
        cases e
    subst hk
    obtain rfl : l = [] := List.eq_nil_of_length_eq_zero e1
    have hnil : ∀ W : World, (binOp .eql 23 (.slice none 0 c) (.slice none 0 0)).run Tryd.prog W = .ok (.bool true) W := fun W => by
      first | rfl | simp [binOp, go_sem]
    clear r e1
    go_enter Tryd.func77, Tryd.ntmps77
    go_wp2
    go_returns
    exact ⟨_, rfl, none, 0, rfl, World.ownsRow_nil _ _ _ _, Kept.refl _ _⟩
  | some a =>
    have hnil : ∀ W : World, (binOp .eql 23 (.slice (some a) k c) (.slice none 0 0)).run Tryd.prog W = .ok (.bool false) W := fun W => by
      first | rfl | simp [binOp, go_sem]
    have HB := hidden r
    have m1 : Hid (0 + k ≤ maxLen) := by rw [Hid]; unfold maxLen; omega
    have m2 : Hid ((0 + k) * 8 ≤ 140737488355328) := by rw [Hid]; omega
    have E1 : Hid ((IS l).length = k * 1) := by rw [Hid, IS_len, e1, Nat.mul_one]
    clear r e1
    go_enter Tryd.func77, Tryd.ntmps77
    go_wp2_with (refine wpList_append_any rfl _ _ 23 rfl w.heap.size 3 i0 (.int .i64 0) 1 8 Tryd.underlying23 hi hz0 hz1 hz2 rfl (by decide) _ 0 0 [] rfl (World.ownsRow_made w #[] 0 (Nat.le_refl _) (by decide) (by decide)) (some a) k c (IS l) rfl E1.out ((HB.out.same (same_alloc _ _)).lies) (IS_one l) m1.out m2.out (by simp) ?_; intro a1 c1 w1 ho1 hg1)
    rw [Nat.zero_add, List.nil_append] at ho1
    go_returns
    exact ⟨_, rfl, a1, c1, by simp, ho1, ((Kept.refl (fun _ => False) w).alloc _).grown hg1 (fun k hk hl => by simp [Value.ownBlock] at hk; omega)⟩
theorem own_geN {w : World} {b : Nat} {e : TypeId} {size : Nat} {v : Value} {n : Nat} {xs : List Value} (h : w.ownsRow b e size v n xs) (k : Nat) (hk : v.ownBlock = some k) : b ≤ k := by
  rcases h.2 with ⟨h1, h2⟩ | ⟨g, cap, cur, h1, h2, hh, _⟩
  · rw [h1] at hk; simp [Value.ownBlock] at hk
  · rw [h1] at hk
    have : g = k := by simpa [Value.ownBlock] using hk
    omega
theorem own_ltN {w : World} {b : Nat} {e : TypeId} {size : Nat} {v : Value} {n : Nat} {xs : List Value} (h : w.ownsRow b e size v n xs) (k : Nat) (hk : v.ownBlock = some k) : k < w.heap.size := by
  rcases h.2 with ⟨h1, h2⟩ | ⟨g, cap, cur, h1, h2, hh, _⟩
  · rw [h1] at hk; simp [Value.ownBlock] at hk
  · rw [h1] at hk
    have : g = k := by simpa [Value.ownBlock] using hk
    subst this
    exact blk_lt hh
/-- A block of four cells, and what it is when all are written. -/
theorem fill4 {W : World} {g : Nat} {t : TypeId} {z0 z1 z2 z3 : Value} (h : W.heap[g]? = some (.cells #[z0, z1, z2, z3] t (0, 0))) (v0 v1 v2 v3 : Value) :
    ((((W.setCell ⟨g, 0, none⟩ v0).setCell ⟨g, 1, none⟩ v1).setCell ⟨g, 2, none⟩ v2).setCell ⟨g, 3, none⟩ v3).heap[g]? = some (.cells #[v0, v1, v2, v3] t (0, 0)) := by
  have h1 : (W.setCell ⟨g, 0, none⟩ v0).heap[g]? = some (.cells #[v0, z1, z2, z3] t (0, 0)) := blk_set h v0
  have h2 : ((W.setCell ⟨g, 0, none⟩ v0).setCell ⟨g, 1, none⟩ v1).heap[g]? = some (.cells #[v0, v1, z2, z3] t (0, 0)) := blk_set h1 v1
  have h3 : (((W.setCell ⟨g, 0, none⟩ v0).setCell ⟨g, 1, none⟩ v1).setCell ⟨g, 2, none⟩ v2).heap[g]? = some (.cells #[v0, v1, v2, z3] t (0, 0)) := blk_set h2 v2
  exact blk_set h3 v3
theorem same_fill4 {w W : World} (k : Same w W) {g : Nat} (hg : w.heap.size ≤ g) (v0 v1 v2 v3 : Value) : Same w ((((W.setCell ⟨g, 0, none⟩ v0).setCell ⟨g, 1, none⟩ v1).setCell ⟨g, 2, none⟩ v2).setCell ⟨g, 3, none⟩ v3) :=
  (((k.setNew (p := ⟨g, 0, none⟩) hg v0).setNew (p := ⟨g, 1, none⟩) hg v1).setNew (p := ⟨g, 2, none⟩) hg v2).setNew (p := ⟨g, 3, none⟩) hg v3
theorem kept_fill4 {W : World} {g : Nat} (v0 v1 v2 v3 : Value) : Kept (only g) W ((((W.setCell ⟨g, 0, none⟩ v0).setCell ⟨g, 1, none⟩ v1).setCell ⟨g, 2, none⟩ v2).setCell ⟨g, 3, none⟩ v3) :=
  ((((Kept.refl (only g) W).setCell (p := ⟨g, 0, none⟩) rfl v0).setCell (p := ⟨g, 1, none⟩) rfl v1).setCell (p := ⟨g, 2, none⟩) rfl v2).setCell (p := ⟨g, 3, none⟩) rfl v3
theorem own_typesN {w : World} {b b' : Nat} {e e' : TypeId} {size size' : Nat} {v v' : Value} {n n' : Nat} {xs xs' : List Value} (h : w.ownsRow b e size v n xs) (h' : w.ownsRow b' e' size' v' n' xs') (hne : e ≠ e') (k : Nat) (hk : v.ownBlock = some k) : v'.ownBlock ≠ some k := by
  rcases h.2 with ⟨h1, h2⟩ | ⟨g, cap, cur, h1, h2, hh, _⟩
  · rw [h1] at hk; simp [Value.ownBlock] at hk
  · rw [h1] at hk
    have : g = k := by simpa [Value.ownBlock] using hk
    subst this
    rcases h'.2 with ⟨h1', _⟩ | ⟨g', cap', cur', h1', _, hh', _⟩
    · rw [h1']; simp [Value.ownBlock]
    · rw [h1']
      simp only [Value.ownBlock, ne_eq, Option.some.injEq]
      rintro rfl
      rw [hh] at hh'
      simp at hh'
      exact hne hh'.2
/-- A node in rows of its own. -/
structure NF (B : Nat) (w : World) (u : Value) (n : Nd) : Prop where
  out : ∃ a1 a2 a3 c1 c2 c3, u = .agg #[.bool n.leaf, .slice a1 n.keys.length c1, .slice a2 n.vals.length c2, .slice a3 n.kids.length c3] ∧
    w.ownsRow B 9 1 (.slice a1 n.keys.length c1) n.keys.length (TS n.keys) ∧ w.ownsRow B 9 1 (.slice a2 n.vals.length c2) n.vals.length (TS n.vals) ∧ w.ownsRow B 3 1 (.slice a3 n.kids.length c3) n.kids.length (IS n.kids) ∧ (∀ k, (Value.slice a1 n.keys.length c1).ownBlock = some k → (Value.slice a2 n.vals.length c2).ownBlock ≠ some k)
set_option maxHeartbeats 2000000 in
set_option maxRecDepth 100000 in
theorem clone_any (n : Nd) (a1 a2 a3 : Option Addr) (k1 c1 k2 c2 k3 c3 : Nat) (w : World) (r1 : Row w (.slice a1 k1 c1) (TS n.keys)) (r2 : Row w (.slice a2 k2 c2) (TS n.vals)) (r3 : Row w (.slice a3 k3 c3) (IS n.kids)) (h1 : n.keys.length ≤ 8796093022208) (h2 : n.vals.length ≤ 8796093022208) (h3 : n.kids.length ≤ 17592186044416) :
    Calls Tryd.prog 49 #[.agg #[.bool n.leaf, .slice a1 k1 c1, .slice a2 k2 c2, .slice a3 k3 c3]] w fun e w' => ∃ u, e = .returned u ∧ NF w.heap.size w' u n ∧ Same w w' := by
  have HS1 := hidden (fun W (k : Same w W) => cloneS n.keys a1 k1 c1 W (r1.same k) h1)
  have HS2 := hidden (fun W (k : Same w W) => cloneS n.vals a2 k2 c2 W (r2.same k) h2)
  have HS3 := hidden (fun W (k : Same w W) => cloneI n.kids a3 k3 c3 W (r3.same k) h3)
  have E1 := hidden r1.tl
  have E2 := hidden r2.tl
  have E3 := hidden r3.il
  have K0 : Hid (Same w ((w.alloc (.cells #[.bool n.leaf, .slice a1 k1 c1, .slice a2 k2 c2, .slice a3 k3 c3] 25)).alloc (.cells #[.bool false, .slice none 0 0, .slice none 0 0, .slice none 0 0] 25))) := hidden (((Kept.refl _ w).alloc _).alloc _)
  have t1 : True := trivial
  clear r1 r2 r3 h1 h2 h3
  go_enter Tryd.func49, Tryd.ntmps49
  go_wp2_with (first
    | (go_at_call 76; have _t := t1; refine (HS1.out _ K0.out).mono ?_; rintro e w1 ⟨u, rfl, b1, d1, rfl, o1, q1⟩; clear t1
       have g0 : w1.heap[w.heap.size]? = some (.cells #[.bool n.leaf, .slice a1 k1 c1, .slice a2 k2 c2, .slice a3 k3 c3] 25 (0, 0)) := blk_kept q1 (fun h => h) (blk_alloc (blk_new _ _) _)
       have g1 : w1.heap[w.heap.size + 1]? = some (.cells #[.bool false, .slice none 0 0, .slice none 0 0, .slice none 0 0] 25 (0, 0)) := blk_kept q1 (fun h => h) (by have := blk_new (w.alloc (.cells #[.bool n.leaf, .slice a1 k1 c1, .slice a2 k2 c2, .slice a3 k3 c3] 25)) (.cells #[.bool false, .slice none 0 0, .slice none 0 0, .slice none 0 0] 25); simpa using this)
       have x1 : w1.cell? ⟨w.heap.size, 1, none⟩ = some (.slice a1 k1 c1) := blk_cell g0
       have y1 : w1.frozen? ⟨w.heap.size, 1, none⟩ = false := blk_free g0
       have g0' : (w1.setCell ⟨w.heap.size, 1, none⟩ (.slice b1 k1 d1)).heap[w.heap.size]? = some (.cells #[.bool n.leaf, .slice b1 k1 d1, .slice a2 k2 c2, .slice a3 k3 c3] 25 (0, 0)) := blk_set g0 _
       have x2 : (w1.setCell ⟨w.heap.size, 1, none⟩ (.slice b1 k1 d1)).cell? ⟨w.heap.size, 2, none⟩ = some (.slice a2 k2 c2) := blk_cell g0'
       have s1 : Kept (only w.heap.size) w1 (w1.setCell ⟨w.heap.size, 1, none⟩ (.slice b1 k1 d1)) := (Kept.refl (only w.heap.size) w1).setCell (p := ⟨w.heap.size, 1, none⟩) rfl _
       have AP := hidden (fun k hk => own_ltN (own_kept o1 s1 (fun k hk hs => by have h1 := own_geN o1 k hk; have h2 : k = w.heap.size := hs; simp at h1; omega)) k hk)
       have O1 := hidden (own_kept o1 s1 (fun k hk hs => by have h1 := own_geN o1 k hk; have h2 : k = w.heap.size := hs; simp at h1; omega))
       have G0 := hidden g0'
       have G1 := hidden (blk_kept s1 (by show ¬ w.heap.size + 1 = w.heap.size; omega) g1)
       have K1 := hidden ((K0.out.trans q1).setNew (p := ⟨w.heap.size, 1, none⟩) (Nat.le_refl _) (.slice b1 k1 d1))
       have t2 : True := trivial
       clear o1 q1 g0 g1 g0' s1)
    | (go_at_call 76; have _t := t2; refine (HS2.out _ K1.out).mono ?_; rintro e w2 ⟨u, rfl, b2, d2, rfl, o2, q2⟩; clear t2
       have g0 := blk_kept q2 (fun h => h) G0.out
       have x3 : w2.cell? ⟨w.heap.size, 2, none⟩ = some (.slice a2 k2 c2) := blk_cell g0
       have y3 : w2.frozen? ⟨w.heap.size, 2, none⟩ = false := blk_free g0
       have g0' : (w2.setCell ⟨w.heap.size, 2, none⟩ (.slice b2 k2 d2)).heap[w.heap.size]? = some (.cells #[.bool n.leaf, .slice b1 k1 d1, .slice b2 k2 d2, .slice a3 k3 c3] 25 (0, 0)) := blk_set g0 _
       have x4 : (w2.setCell ⟨w.heap.size, 2, none⟩ (.slice b2 k2 d2)).cell? ⟨w.heap.size, 3, none⟩ = some (.slice a3 k3 c3) := blk_cell g0'
       have s1 : Kept (only w.heap.size) w2 (w2.setCell ⟨w.heap.size, 2, none⟩ (.slice b2 k2 d2)) := (Kept.refl (only w.heap.size) w2).setCell (p := ⟨w.heap.size, 2, none⟩) rfl _
       have hz := K1.out.size
       have O2 := hidden (own_kept o2 s1 (fun k hk hs => by have h1 := own_geN o2 k hk; have h2 : k = w.heap.size := hs; have h3 := blk_lt G1.out; omega))
       have P1 := hidden (own_kept (own_kept O1.out q2 (fun _ _ h => h)) s1 (fun k hk hs => by have h1 := own_geN O1.out k hk; have h2 : k = w.heap.size := hs; simp at h1; omega))
       have G0b := hidden g0'
       have G1b := hidden (blk_kept s1 (by show ¬ w.heap.size + 1 = w.heap.size; omega) (blk_kept q2 (fun h => h) G1.out))
       have K2 := hidden ((K1.out.trans q2).setNew (p := ⟨w.heap.size, 2, none⟩) (Nat.le_refl _) (.slice b2 k2 d2))
       clear o2 q2 g0 g0' s1 O1 hz)
    | (go_at_call 77; refine (HS3.out _ K2.out).mono ?_; rintro e w3 ⟨u, rfl, b3, d3, rfl, o3, q3⟩
       have g0 := blk_kept q3 (fun h => h) G0b.out
       have x5 : w3.cell? ⟨w.heap.size, 3, none⟩ = some (.slice a3 k3 c3) := blk_cell g0
       have y5 : w3.frozen? ⟨w.heap.size, 3, none⟩ = false := blk_free g0
       have g0' : (w3.setCell ⟨w.heap.size, 3, none⟩ (.slice b3 k3 d3)).heap[w.heap.size]? = some (.cells #[.bool n.leaf, .slice b1 k1 d1, .slice b2 k2 d2, .slice b3 k3 d3] 25 (0, 0)) := blk_set g0 _
       have s1 : Kept (only w.heap.size) w3 (w3.setCell ⟨w.heap.size, 3, none⟩ (.slice b3 k3 d3)) := (Kept.refl (only w.heap.size) w3).setCell (p := ⟨w.heap.size, 3, none⟩) rfl _
       have hB := blk_lt G1b.out
       have O3 := hidden (own_kept o3 s1 (fun k hk hs => by have h1 := own_geN o3 k hk; have h2 : k = w.heap.size := hs; omega))
       have P2 := hidden (own_kept (own_kept O2.out q3 (fun _ _ h => h)) s1 (fun k hk hs => by have h1 := own_geN O2.out k hk; have h2 : k = w.heap.size := hs; have h3 := K1.out.size; have h4 := blk_lt G1.out; omega))
       have Q1 := hidden (own_kept (own_kept P1.out q3 (fun _ _ h => h)) s1 (fun k hk hs => by have h1 := own_geN P1.out k hk; have h2 : k = w.heap.size := hs; simp at h1; omega))
       have g1c := blk_kept s1 (by show ¬ w.heap.size + 1 = w.heap.size; omega) (blk_kept q3 (fun h => h) G1b.out)
       have K3 := hidden ((K2.out.trans q3).setNew (p := ⟨w.heap.size, 3, none⟩) (Nat.le_refl _) (.slice b3 k3 d3))
       have z0 : (w3.setCell ⟨w.heap.size, 3, none⟩ (.slice b3 k3 d3)).cell? ⟨w.heap.size, 0, none⟩ = some (.bool n.leaf) := blk_cell g0'
       have z1 : (w3.setCell ⟨w.heap.size, 3, none⟩ (.slice b3 k3 d3)).cell? ⟨w.heap.size, 1, none⟩ = some (.slice b1 k1 d1) := blk_cell g0'
       have z2 : (w3.setCell ⟨w.heap.size, 3, none⟩ (.slice b3 k3 d3)).cell? ⟨w.heap.size, 2, none⟩ = some (.slice b2 k2 d2) := blk_cell g0'
       have z3 : (w3.setCell ⟨w.heap.size, 3, none⟩ (.slice b3 k3 d3)).cell? ⟨w.heap.size, 3, none⟩ = some (.slice b3 k3 d3) := blk_cell g0'
       have s0' : (w3.setCell ⟨w.heap.size, 3, none⟩ (.slice b3 k3 d3)).cell? ⟨w.heap.size + 1, 0, none⟩ = some (.bool false) := blk_cell g1c
       have f0' : (w3.setCell ⟨w.heap.size, 3, none⟩ (.slice b3 k3 d3)).frozen? ⟨w.heap.size + 1, 0, none⟩ = false := blk_free g1c
       have s1' : (w3.setCell ⟨w.heap.size, 3, none⟩ (.slice b3 k3 d3)).cell? ⟨w.heap.size + 1, 1, none⟩ = some (.slice none 0 0) := blk_cell g1c
       have f1' : (w3.setCell ⟨w.heap.size, 3, none⟩ (.slice b3 k3 d3)).frozen? ⟨w.heap.size + 1, 1, none⟩ = false := blk_free g1c
       have s2' : (w3.setCell ⟨w.heap.size, 3, none⟩ (.slice b3 k3 d3)).cell? ⟨w.heap.size + 1, 2, none⟩ = some (.slice none 0 0) := blk_cell g1c
       have f2' : (w3.setCell ⟨w.heap.size, 3, none⟩ (.slice b3 k3 d3)).frozen? ⟨w.heap.size + 1, 2, none⟩ = false := blk_free g1c
       have s3' : (w3.setCell ⟨w.heap.size, 3, none⟩ (.slice b3 k3 d3)).cell? ⟨w.heap.size + 1, 3, none⟩ = some (.slice none 0 0) := blk_cell g1c
       have f3' : (w3.setCell ⟨w.heap.size, 3, none⟩ (.slice b3 k3 d3)).frozen? ⟨w.heap.size + 1, 3, none⟩ = false := blk_free g1c
       have GC := hidden g1c
       clear o3 q3 g0 g0' g1c s1))
  generalize w3.setCell ⟨w.heap.size, 3, none⟩ (.slice b3 k3 d3) = W at *
  have gf := fill4 GC.out (.bool n.leaf) (.slice b1 k1 d1) (.slice b2 k2 d2) (.slice b3 k3 d3)
  have kf := kept_fill4 (W := W) (g := w.heap.size + 1) (.bool n.leaf) (.slice b1 k1 d1) (.slice b2 k2 d2) (.slice b3 k3 d3)
  have sf := same_fill4 K3.out (g := w.heap.size + 1) (by omega) (.bool n.leaf) (.slice b1 k1 d1) (.slice b2 k2 d2) (.slice b3 k3 d3)
  generalize (((W.setCell ⟨w.heap.size + 1, 0, none⟩ (.bool n.leaf)).setCell ⟨w.heap.size + 1, 1, none⟩ (.slice b1 k1 d1)).setCell ⟨w.heap.size + 1, 2, none⟩ (.slice b2 k2 d2)).setCell ⟨w.heap.size + 1, 3, none⟩ (.slice b3 k3 d3) = WF at gf kf sf ⊢
  have q0 : WF.cell? ⟨w.heap.size + 1, 0, none⟩ = some (.bool n.leaf) := blk_cell gf
  have q1 : WF.cell? ⟨w.heap.size + 1, 1, none⟩ = some (.slice b1 k1 d1) := blk_cell gf
  have q2 : WF.cell? ⟨w.heap.size + 1, 2, none⟩ = some (.slice b2 k2 d2) := blk_cell gf
  have q3 : WF.cell? ⟨w.heap.size + 1, 3, none⟩ = some (.slice b3 k3 d3) := blk_cell gf
  have e1 := E1.out
  have e2 := E2.out
  have e3 := E3.out
  subst e1 e2 e3
  refine bodyPost_ret (v := .agg #[.bool n.leaf, .slice b1 n.keys.length d1, .slice b2 n.vals.length d2, .slice b3 n.kids.length d3]) (by simp [results, Tryd.results49, go_sem, q0, q1, q2, q3]; try rfl) rfl ⟨_, rfl, ⟨⟨b1, b2, b3, d1, d2, d3, rfl, ?_, ?_, ?_, fun k hk1 hk2 => by have h1 := AP.out k hk1; have h2 := own_geN P2.out k hk2; omega⟩⟩, sf⟩
  · exact own_mono (own_kept Q1.out kf (fun k hk hs => by have h1 := own_geN Q1.out k hk; have h2 : k = w.heap.size + 1 := hs; simp at h1; omega)) (by simp; omega)
  · exact own_mono (own_kept P2.out kf (fun k hk hs => by have h1 := own_geN P2.out k hk; have h2 : k = w.heap.size + 1 := hs; have h4 := blk_lt G1.out; omega)) K1.out.size
  · exact own_mono (own_kept O3.out kf (fun k hk hs => by have h1 := own_geN O3.out k hk; have h2 : k = w.heap.size + 1 := hs; omega)) K2.out.size
end Go.Proofs.YtpjgghalnkfdkaaDoor
