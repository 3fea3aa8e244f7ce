/- Texts in memory, wherever they lie; append of whatever (for path). -/
import Derived.Test.YtndfgpelioipcaaDoorRows
import Derived.Test.YtndfgpelioipcaaDoorBase
import Derived.Test.YtndfgpelioipcaaDoorStepC
import Derived.BigQuiet
import Derived.Deep.QuietTactic
import Derived.Deep.RegionHeld3
import Derived.Deep.RegionLaw
import Derived.Deep.AppendLies
import Derived.Sort.Walk0
import Derived.Sort.Defs
import Derived.Lib.SmallJoins
import Derived.Lib.Strings
import Derived.Handy
import Derived.Laws.OwnMore
import Derived.Laws.Strings2
namespace Go.Proofs.YtndfgpelioipcaaDoor
open Go.RowKit
set_option linter.unusedVariables false
abbrev Same (w w' : World) : Prop := Kept (fun _ => False) w w'
theorem same_alloc (w : World) (o : Obj) : Same w (w.alloc o) := (Kept.refl _ _).alloc o
theorem hmx : Tryd.prog.follows .mixedOrders = true := by kernel_rfl
theorem add_none (g i j : Nat) : (⟨g, i, none⟩ : Addr).add j = ⟨g, i + j, none⟩ := by unfold Addr.add; split <;> simp_all
theorem same_drew {w w' : World} (k : Same w w') : Same w w'.drew := ⟨k.os, k.tape, k.output, k.size, k.block⟩
theorem same_of_below {w w' : World} (h : Below w.heap.size w w') : Same w w' := ⟨h.os, h.tape, h.output, h.size, fun k hk _ => h.block k hk⟩
theorem info_parts {i : Option TypeInfo} {z : Value} {s b : Nat} (h : i.map (fun i => (i.zero, i.size, i.bytes)) = some (some z, s, b)) : ∃ i0, i = some i0 ∧ i0.zero = some z ∧ i0.size = s ∧ i0.bytes = b := by
  cases i with
  | none => simp at h
  | some i0 => simp at h; exact ⟨i0, rfl, h.1, h.2.1, h.2.2⟩
theorem infoS : (Tryd.prog.info? 9).map (fun i => (i.zero, i.size, i.bytes)) = some (some (.string ⟨#[]⟩), 1, 16) := by kernel_rfl
theorem run_append_none {P : Program} (w : World) (t ty e : TypeId) (i : TypeInfo) (ht : P.underlying t = some (.slice e)) (hi : P.info? e = some i) (a : Option Addr) (n c : Nat) (b : Option Addr) (d : Nat) (h : n ≤ c) :
    (Builtin.append_ #[t, t] ty #[.slice a n c, .slice b 0 d]).run P w = .ok (.slice a n c) w := by
  cases a
  · cases b
    · simp [Builtin.append_, run_underlying ht, sizeOf, typeInfo, hi, Builtin.lenOf, Builtin.firstCells, h]
    · simp [Builtin.append_, run_underlying ht, sizeOf, typeInfo, hi, Builtin.lenOf, Builtin.firstCells, loadCells, loadCellsFrom, h]
  · cases b
    · simp [Builtin.append_, run_underlying ht, sizeOf, typeInfo, hi, Builtin.lenOf, Builtin.firstCells, h, storeCells]
    · simp [Builtin.append_, run_underlying ht, sizeOf, typeInfo, hi, Builtin.lenOf, Builtin.firstCells, loadCells, loadCellsFrom, h, storeCells]
theorem own_room {w : World} {B n cap s : Nat} {a : Option Addr} {e : TypeId} {xs : List Value} (h : w.ownsRow B e s (.slice a n cap) n xs) : n ≤ cap := by
  rcases h.2 with ⟨_, h2⟩ | ⟨g', cap', cur, hv, hb, hg, hn, _⟩
  · omega
  · obtain ⟨_, rfl⟩ : a = _ ∧ cap = cap' := by simpa using hv
    omega
theorem grownBy_rfl (w : World) (r : Option Nat) : w.grownBy w r := ⟨rfl, rfl, rfl, Nat.le_refl _, fun _ _ _ => rfl⟩
/-- What is known of a slice that is appended. -/
def Lies (w : World) (ao : Option Addr) (m : Nat) (news : List Value) : Prop := 0 < m → ∃ ad, ao = some ad ∧ ∀ j u, news[j]? = some u → w.cell? (ad.add j) = some u
theorem run_append_any {P : Program} (w : World) (t ty : TypeId) (base : Nat) (e : TypeId) (i : TypeInfo) (z : Value) (size bytes : Nat) (ht : P.underlying t = some (.slice e)) (hi : P.info? e = some i) (hz : i.zero = some z)
    (hsize : i.size = size) (hby : i.bytes = bytes) (hzs : z.cells.size = size) (hsz : 0 < size)
    (a0 : Option Addr) (n c0 : Nat) (xs : List Value) (hown : w.ownsRow base e size (.slice a0 n c0) n xs)
    (ao : Option Addr) (m c : Nat) (news : List Value) (hl : news.length = m * size) (hnews : Lies w ao m news) (h1 : ∀ u ∈ news, u.oneCell' = true)
    (h63 : n + m ≤ maxLen) (hbytes : (n + m) * bytes ≤ 140737488355328) (hbase : base ≤ w.heap.size) :
    ∃ a' cap w', (Builtin.append_ #[t, t] ty #[.slice a0 n c0, .slice ao m c]).run P w = .ok (.slice a' (n + m) cap) w' ∧
      w'.ownsRow base e size (.slice a' (n + m) cap) (n + m) (xs ++ news) ∧ w.grownBy w' (Value.slice a0 n c0).ownBlock := by
  rcases Nat.eq_zero_or_pos m with rfl | hm
  · have hn0 : news = [] := List.length_eq_zero_iff.1 (by simpa using hl)
    subst hn0
    exact ⟨a0, c0, w, run_append_none w t ty e i ht hi a0 n c0 ao c (own_room hown), by simpa using hown, grownBy_rfl _ _⟩
  · obtain ⟨ad, rfl, hc⟩ := hnews hm
    obtain ⟨g, cap, w', hr, h2, h3, _⟩ := run_append_lies (P := P) w t ty base e i z size bytes ht hi hz hsize hby hzs hsz _ n xs hown ad m c news hl hc h1 hm h63 hbytes hbase _ rfl
    exact ⟨_, cap, w', hr, h2, h3⟩
theorem wp_append_any {P : Program} {w : World} {o : Oper} {a : Act} {K : Act → World → Prop} {Q : Exit → Act → World → Prop} (s x : Operand) (t : TypeId)
    (ho : o.op = .call { callee := .builtin .append, args := #[s, x], argTypes := #[t, t] })
    (base : Nat) (e : TypeId) (i : TypeInfo) (z : Value) (size bytes : Nat) (ht : P.underlying t = some (.slice e)) (hi : P.info? e = some i) (hz : i.zero = some z)
    (hsize : i.size = size) (hby : i.bytes = bytes) (hzs : z.cells.size = size) (hsz : 0 < size)
    (a0 : Option Addr) (n c0 : Nat) (xs : List Value) (hs : a.eval s = .slice a0 n c0) (hown : w.ownsRow base e size (.slice a0 n c0) n xs)
    (ao : Option Addr) (m c : Nat) (news : List Value) (hx : a.eval x = .slice ao m c) (hl : news.length = m * size) (hnews : Lies w ao m news) (h1 : ∀ u ∈ news, u.oneCell' = true)
    (h63 : n + m ≤ maxLen) (hbytes : (n + m) * bytes ≤ 140737488355328) (hbase : base ≤ w.heap.size)
    (h : ∀ a' cap w', w'.ownsRow base e size (.slice a' (n + m) cap) (n + m) (xs ++ news) → w.grownBy w' (Value.slice a0 n c0).ownBlock → K (a.put o.dst (.slice a' (n + m) cap)) w') : o.wp P a w K Q := by
  obtain ⟨a', cap, w', hr, h2, h3⟩ := run_append_any (P := P) w t o.type base e i z size bytes ht hi hz hsize hby hzs hsz a0 n c0 xs hown ao m c news hl hnews h1 h63 hbytes hbase
  unfold Oper.wp execOp
  simp only [ho, resolve, invoke, builtin, Sem.run_bind, Sem.run_pure, Result.andThen_ok, List.map_toArray, List.map_cons, List.map_nil, hs, hx, hr]
  exact h a' cap w' h2 h3
theorem wpList_append_any {P : Program} {w : World} {ops : Array Oper} {rest : List Oper} {o : Oper} {a : Act} {Q : Exit → Act → World → Prop} (hgd : o.guard = none) (s x : Operand) (t : TypeId)
    (ho : o.op = .call { callee := .builtin .append, args := #[s, x], argTypes := #[t, t] })
    (base : Nat) (e : TypeId) (i : TypeInfo) (z : Value) (size bytes : Nat) (ht : P.underlying t = some (.slice e)) (hi : P.info? e = some i) (hz : i.zero = some z)
    (hsize : i.size = size) (hby : i.bytes = bytes) (hzs : z.cells.size = size) (hsz : 0 < size)
    (a0 : Option Addr) (n c0 : Nat) (xs : List Value) (hs : a.eval s = .slice a0 n c0) (hown : w.ownsRow base e size (.slice a0 n c0) n xs)
    (ao : Option Addr) (m c : Nat) (news : List Value) (hx : a.eval x = .slice ao m c) (hl : news.length = m * size) (hnews : Lies w ao m news) (h1 : ∀ u ∈ news, u.oneCell' = true)
    (h63 : n + m ≤ maxLen) (hbytes : (n + m) * bytes ≤ 140737488355328) (hbase : base ≤ w.heap.size)
    (h : ∀ a' cap w', w'.ownsRow base e size (.slice a' (n + m) cap) (n + m) (xs ++ news) → w.grownBy w' (Value.slice a0 n c0).ownBlock → wpList P ops Q rest (a.put o.dst (.slice a' (n + m) cap)) w') : wpList P ops Q (o :: rest) a w :=
  wpList_plain hgd fun _ hK => wp_append_any s x t ho base e i z size bytes ht hi hz hsize hby hzs hsz a0 n c0 xs hs hown ao m c news hx hl hnews h1 h63 hbytes hbase fun a' cap w' h2 h3 => hK _ _ (h a' cap w' h2 h3)
theorem step_append_any {P : Program} {w : World} {ops : Array Oper} {o : Oper} {a : Act} {K : Act → World → Prop} {Q : Exit → Act → World → Prop} {E : Prop} (hgd : o.guard = none) (s x : Operand) (t : TypeId)
    (ho : o.op = .call { callee := .builtin .append, args := #[s, x], argTypes := #[t, t] })
    (base : Nat) (e : TypeId) (i : TypeInfo) (z : Value) (size bytes : Nat) (ht : P.underlying t = some (.slice e)) (hi : P.info? e = some i) (hz : i.zero = some z)
    (hsize : i.size = size) (hby : i.bytes = bytes) (hzs : z.cells.size = size) (hsz : 0 < size)
    (a0 : Option Addr) (n c0 : Nat) (xs : List Value) (hs : a.eval s = .slice a0 n c0) (hown : w.ownsRow base e size (.slice a0 n c0) n xs)
    (ao : Option Addr) (m c : Nat) (news : List Value) (hx : a.eval x = .slice ao m c) (hl : news.length = m * size) (hnews : Lies w ao m news) (h1 : ∀ u ∈ news, u.oneCell' = true)
    (h63 : n + m ≤ maxLen) (hbytes : (n + m) * bytes ≤ 140737488355328) (hbase : base ≤ w.heap.size)
    (h : ∀ a' cap w', w'.ownsRow base e size (.slice a' (n + m) cap) (n + m) (xs ++ news) → w.grownBy w' (Value.slice a0 n c0).ownBlock → K (a.put o.dst (.slice a' (n + m) cap)) w') :
    if Region.wanted o (yielded ops a.tmps) = true then Oper.wp P o a w K Q else E := by
  have hw : Region.wanted o (yielded ops a.tmps) = true := by simp [Region.wanted, hgd]
  rw [if_pos hw]
  exact wp_append_any s x t ho base e i z size bytes ht hi hz hsize hby hzs hsz a0 n c0 xs hs hown ao m c news hx hl hnews h1 h63 hbytes hbase h
/-- A world in which only a row that is new has grown. -/
theorem same_grown {w0 w w' : World} {e : TypeId} {s n m : Nat} {v : Value} {xs : List Value} (k : Same w0 w) (h : w.ownsRow w0.heap.size e s v n xs) (hg : w.grownBy w' v.ownBlock) : Same w0 w' :=
  Kept.grown k hg (fun q hk hl => by have := (h.lt q hk).1; omega)
theorem own_mono {w : World} {B C n s : Nat} {e : TypeId} {v : Value} {xs : List Value} (h : w.ownsRow B e s v n xs) (hc : C ≤ B) : w.ownsRow C e s v n xs :=
  ⟨h.1, h.2.imp id fun ⟨g, cap, cur, a, hb, b⟩ => ⟨g, cap, cur, a, Nat.le_trans hc hb, b⟩⟩
/-- Other rows stay where one that is new grows. -/
theorem lies_of {w : World} {ad : Addr} {m : Nat} {news : List Value} (h : ∀ j u, news[j]? = some u → w.cell? (ad.add j) = some u) : Lies w (some ad) m news := fun _ => ⟨ad, rfl, h⟩
theorem lies_nil (w : World) (ao : Option Addr) : Lies w ao 0 [] := fun h => by omega
/-- A slice whose elements are these values (one cell each), wherever it lies. -/
def Row (w : World) (v : Value) (xs : List Value) : Prop :=
  ∃ a cap, v = .slice a xs.length cap ∧ xs.length ≤ cap ∧ (a = none → cap = 0) ∧ (0 < xs.length → ∃ b off, a = some ⟨b, off, none⟩ ∧ ∀ j x, xs[j]? = some x → w.cell? ⟨b, off + j, none⟩ = some x)
theorem Row.nil (w : World) : Row w (.slice none 0 0) [] := ⟨none, 0, rfl, Nat.le_refl _, fun _ => rfl, fun h => absurd h (by simp)⟩
theorem Row.form {w : World} {v : Value} {xs : List Value} (h : Row w v xs) : ∃ a cap, v = .slice a xs.length cap := by
  obtain ⟨a, cap, h1, _⟩ := h
  exact ⟨a, cap, h1⟩
theorem Row.same {w w' : World} {v : Value} {xs : List Value} (h : Row w v xs) (k : Same w w') : Row w' v xs := by
  obtain ⟨a, cap, h1, h2, h3, h4⟩ := h
  refine ⟨a, cap, h1, h2, h3, fun hp => ?_⟩
  obtain ⟨b, off, e, hc⟩ := h4 hp
  exact ⟨b, off, e, fun j x hj => k.cell (p := ⟨b, off + j, none⟩) (fun h => h) (hc j x hj)⟩
theorem Row.len {w : World} {a : Option Addr} {n cap : Nat} {xs : List Value} (h : Row w (.slice a n cap) xs) : n = xs.length ∧ n ≤ cap := by
  obtain ⟨a', cap', h1, h2, _⟩ := h
  simp only [Value.slice.injEq] at h1
  obtain ⟨rfl, rfl, rfl⟩ := h1
  exact ⟨rfl, h2⟩
theorem Row.at {w : World} {a : Option Addr} {n cap : Nat} {xs : List Value} (h : Row w (.slice a n cap) xs) (hp : 0 < xs.length) : ∃ b off, a = some ⟨b, off, none⟩ ∧ ∀ j x, xs[j]? = some x → w.cell? ⟨b, off + j, none⟩ = some x := by
  obtain ⟨a', cap', h1, h2, h3, h4⟩ := h
  simp only [Value.slice.injEq] at h1
  obtain ⟨rfl, rfl, rfl⟩ := h1
  exact h4 hp
theorem Row.lies {w : World} {a : Option Addr} {n cap : Nat} {xs : List Value} (h : Row w (.slice a n cap) xs) : Lies w a n xs := by
  intro hn
  have hl := h.len.1
  obtain ⟨b, off, rfl, hc⟩ := h.at (by omega)
  exact ⟨_, rfl, fun j u hj => by rw [add_none]; exact hc j u hj⟩
theorem Row.own {w : World} {B n : Nat} {e : TypeId} {v : Value} {xs : List Value} (h : w.ownsRow B e 1 v n xs) : Row w v xs := by
  have hl : xs.length = n := by have := h.1; omega
  rcases h.2 with ⟨h1, h2⟩ | ⟨g, cap, cur, h1, h2, h3, h4, h5, h6, h7⟩
  · obtain rfl : xs = [] := List.eq_nil_of_length_eq_zero (by omega)
    rw [h1]
    exact Row.nil _
  · refine ⟨some ⟨g, 0, none⟩, cap, by rw [h1, hl], by omega, (fun e => by cases e), fun hp => ⟨g, 0, rfl, fun j x hj => ?_⟩⟩
    have := World.ownsRow.cells h (g := g) (by rw [h1]; rfl) j x hj
    rwa [add_none] at this
/-- A part of a row. -/
theorem Row.part {w : World} {b off n cap : Nat} {xs : List Value} (h : Row w (.slice (some ⟨b, off, none⟩) n cap) xs) (i m c : Nat) (hm : i + m ≤ n) (hc : m ≤ c) : Row w (.slice (some ⟨b, off + i, none⟩) m c) ((xs.drop i).take m) := by
  have hl := h.len.1
  have hlen : ((xs.drop i).take m).length = m := by rw [List.length_take, List.length_drop]; omega
  refine ⟨some ⟨b, off + i, none⟩, c, by rw [hlen], by omega, (fun e => by cases e), fun hp => ⟨b, off + i, rfl, fun j x hj => ?_⟩⟩
  obtain ⟨b', off', e, hcell⟩ := h.at (by omega)
  cases e
  have hjm : j < m := by have := (List.getElem?_eq_some_iff.1 hj).1; omega
  rw [List.getElem?_take, if_pos hjm, List.getElem?_drop] at hj
  rw [Nat.add_assoc]
  exact hcell _ _ hj
/-- Texts, and ints. -/
def TS (l : List ByteArray) : List Value := l.map Value.string
def IS (l : List Int) : List Value := l.map (Value.int .i64)
theorem TS_len (l : List ByteArray) : (TS l).length = l.length := List.length_map _
theorem IS_len (l : List Int) : (IS l).length = l.length := List.length_map _
theorem TS_at (l : List ByteArray) {j : Nat} (h : j < l.length) : (TS l)[j]? = some (.string l[j]) := by simp [TS, h]
theorem IS_at (l : List Int) {j : Nat} (h : j < l.length) : (IS l)[j]? = some (.int .i64 l[j]) := by simp [IS, h]
theorem TS_one (l : List ByteArray) : ∀ u ∈ TS l, u.oneCell' = true := fun u hu => by
  obtain ⟨x, _, rfl⟩ := List.mem_map.1 hu
  rfl
theorem IS_one (l : List Int) : ∀ u ∈ IS l, u.oneCell' = true := fun u hu => by
  obtain ⟨x, _, rfl⟩ := List.mem_map.1 hu
  rfl
/-- A text of a row of texts, to be read. -/
theorem Row.text {w : World} {a : Option Addr} {n cap : Nat} {l : List ByteArray} (h : Row w (.slice a n cap) (TS l)) {j : Nat} (hj : j < l.length) : ∃ b off, a = some ⟨b, off, none⟩ ∧ w.cell? ⟨b, off + j, none⟩ = some (.string l[j]) := by
  obtain ⟨b, off, e, hc⟩ := h.at (by rw [TS_len]; omega)
  exact ⟨b, off, e, hc j _ (TS_at l hj)⟩
theorem Row.int {w : World} {a : Option Addr} {n cap : Nat} {l : List Int} (h : Row w (.slice a n cap) (IS l)) {j : Nat} (hj : j < l.length) : ∃ b off, a = some ⟨b, off, none⟩ ∧ w.cell? ⟨b, off + j, none⟩ = some (.int .i64 l[j]) := by
  obtain ⟨b, off, e, hc⟩ := h.at (by rw [IS_len]; omega)
  exact ⟨b, off, e, hc j _ (IS_at l hj)⟩
theorem Row.textAt {w : World} {b off n cap : Nat} {l : List ByteArray} (h : Row w (.slice (some ⟨b, off, none⟩) n cap) (TS l)) {j : Nat} (hj : j < l.length) : w.cell? ⟨b, off + j, none⟩ = some (.string l[j]) := by
  obtain ⟨b', off', e, hc⟩ := h.text hj
  cases e
  exact hc
theorem Row.intAt {w : World} {b off n cap : Nat} {l : List Int} (h : Row w (.slice (some ⟨b, off, none⟩) n cap) (IS l)) {j : Nat} (hj : j < l.length) : w.cell? ⟨b, off + j, none⟩ = some (.int .i64 l[j]) := by
  obtain ⟨b', off', e, hc⟩ := h.int hj
  cases e
  exact hc
def ltS (a b : ByteArray) : Bool := decide (a.toList < b.toList)
theorem bytes_ext {a b : ByteArray} (h : a.toList = b.toList) : a = b := by
  rw [Lib.toList_data, Lib.toList_data] at h
  cases a; cases b
  simp only at h
  congr 1
  exact Array.toList_inj.1 h
theorem less_of {a b : ByteArray} {t : Bool} (h : ltS a b = t) : Op.bytesLess a.toList b.toList = t := by rw [bytesLess_eq]; exact h
theorem lt_yes {x y : ByteArray} (h : ltS y x = true) : Op.bytesLess y.toList x.toList = true ∧ Op.bytesLess x.toList y.toList = false ∧ (x.toList == y.toList) = false ∧ (y.toList == x.toList) = false := by
  have h1 : y.toList < x.toList := by simpa [ltS] using h
  have hne : y.toList ≠ x.toList := fun e => by rw [e] at h1; exact absurd h1 (List.lt_irrefl _)
  exact ⟨less_of h, by rw [bytesLess_eq]; exact decide_eq_false (List.lt_asymm h1), beq_eq_false_iff_ne.2 hne.symm, beq_eq_false_iff_ne.2 hne⟩
theorem lt_no {x y : ByteArray} (h : ltS y x = false) : ltS x y = true ∨ x = y := by
  by_cases h2 : ltS x y = true
  · exact .inl h2
  · right
    have h1 : ¬ y.toList < x.toList := by simpa [ltS] using h
    have h3 : ¬ x.toList < y.toList := by simpa [ltS] using h2
    exact bytes_ext (List.le_antisymm (List.not_lt.1 h1) (List.not_lt.1 h3))
theorem lt_self (x : ByteArray) : Op.bytesLess x.toList x.toList = false ∧ (x.toList == x.toList) = true := ⟨by rw [bytesLess_eq]; exact decide_eq_false (List.lt_irrefl _), by simp⟩
theorem wrapN {z : Int} (h0 : -9223372036854775808 ≤ z) (h1 : z ≤ 9223372036854775807) : IntKind.i64.wrap z = z := by
  simp [IntKind.wrap, IntKind.signed, IntKind.bits]; omega
theorem Row.tl {w : World} {a : Option Addr} {n cap : Nat} {l : List ByteArray} (h : Row w (.slice a n cap) (TS l)) : l.length = n := by have := h.len.1; rw [TS_len] at this; exact this.symm
end Go.Proofs.YtndfgpelioipcaaDoor
