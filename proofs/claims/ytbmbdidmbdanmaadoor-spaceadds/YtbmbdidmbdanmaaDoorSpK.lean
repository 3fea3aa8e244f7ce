/- The table as the rows list it; a step among a law's arguments, opened. -/
import Derived.Test.YtbmbdidmbdanmaaDoorCards
import Derived.Test.YtbmbdidmbdanmaaDoorTie
import Derived.Test.YtbmbdidmbdanmaaDoorLawKit
import Derived.Test.YtbmbdidmbdanmaaDoorSp18
import Derived.Deep.DeepHandedRow
import Derived.Lib.LaidTab
import Derived.Lib.SmallJoins
namespace Go.Proofs.YtbmbdidmbdanmaaDoor
open Go.ChangeShapes Go.WideShapes Go.ChangeAt Go.RowKit Go.Joins Go.ChangeMaps
set_option linter.unusedVariables false

theorem own : ownKnob Tryd.prog.godebug = none := by kernel_rfl
theorem laidOut : laidOutB Tryd.prog = true := by kernel_rfl
/-- The listed variable's name, as the rows have it. -/
def tabName : String := (Rows.spaceDoesRow.laid.map fun x => x.1).headD default
theorem gTab : Tryd.prog.globalNamed tabName = some 0 := by kernel_rfl
theorem gTabType : (Tryd.prog.globals[0]?).map (·.type) = some 86 := by kernel_rfl
theorem cellsTab : Tryd.prog.cellsOf 86 = 64 := by kernel_rfl
theorem cellsY : Tryd.prog.cellsOf 5 = 1 := by kernel_rfl
theorem cellsI : Tryd.prog.cellsOf 3 = 1 := by kernel_rfl
theorem cellsAr : Tryd.prog.cellsOf 30 = 2 := by kernel_rfl
theorem cellsOp : Tryd.prog.cellsOf 32 = 4 := by kernel_rfl
def tabInts : List Int := deB.map Int.ofNat
/-- A world in which the table lies as the program's text lays it. -/
def tabWorld (w : World) : World :=
  { w with heap := w.heap.modify 0 fun | .cells _ t frozen => .cells (tabInts.map (Value.int .u8)).toArray t frozen | o => o }
set_option maxRecDepth 100000 in
theorem tab_laid {W : World} (h : laidMetH Tryd.prog Rows.spaceDoesRow.laid W) : Tab W := by
  have hT : Lib.TabIs Tryd.prog W tabName .u8 tabInts := Lib.tabIs_of_head (rest := []) gTab gTabType Tryd.underlying86 Tryd.underlying5 cellsY cellsTab h
  intro j hj
  have := hT.cell gTab j (by simpa [tabInts, deB] using hj)
  rw [this]
  have e : tabInts.getD j 0 = ((deB.getD j 0 : Nat) : Int) := by
    have : ∀ i : Fin 64, tabInts.getD i.val 0 = ((deB.getD i.val 0 : Nat) : Int) := by decide
    exact this ⟨j, hj⟩
  rw [e]
theorem arr4 {cs : Array Value} (h : cs.size = 4) : ∃ c0 c1 c2 c3, cs = #[c0, c1, c2, c3] := by
  obtain ⟨l⟩ := cs
  match l, h with
  | [c0, c1, c2, c3], _ => exact ⟨c0, c1, c2, c3, rfl⟩
theorem some_of_len {α : Type} {l : List α} {n : Nat} (h : l.length = n) {i : Nat} (hi : i < n) : ∃ x, l[i]? = some x := ⟨_, List.getElem?_eq_getElem (by omega)⟩
/-- A number that an int may hold. -/
def I64 (a : Int) : Prop := -9223372036854775808 ≤ a ∧ a ≤ 9223372036854775807
section
variable {H : Type} {enc : TypeId × Value → H} {W : World} {base : Nat} {sp : Nat → Bool} {held : Bool}
theorem area_trod {fuel : Nat} {c0 c1 : Value} {x : DataW H × List MemPlace} (h : DataW.trod enc Tryd.prog W base sp held fuel 30 [c0, c1] = some x) :
    ∃ (af ac : Int), c0 = .int .i64 af ∧ c1 = .int .i64 ac ∧ I64 af ∧ I64 ac := by
  obtain ⟨xs, n, _, _, _, hlen, hf⟩ := DataW.trod_struct Tryd.underlying30 h
  obtain ⟨x0, e0⟩ := some_of_len hlen (i := 0) (by decide)
  obtain ⟨x1, e1⟩ := some_of_len hlen (i := 1) (by decide)
  have h0 : DataW.trod enc Tryd.prog W base sp held n 3 (List.take (Tryd.prog.cellsOf 3) (List.drop 0 [c0, c1])) = some x0 := (hf 0 _ rfl).trans e0
  have h1 : DataW.trod enc Tryd.prog W base sp held n 3 (List.take (Tryd.prog.cellsOf 3) (List.drop 1 [c0, c1])) = some x1 := (hf 1 _ rfl).trans e1
  clear hf e0 h
  rw [cellsI] at h0 h1
  obtain ⟨a, q0, _, w0⟩ := DataW.trod_int Tryd.underlying3 h0
  obtain ⟨b, q1, _, w1⟩ := DataW.trod_int Tryd.underlying3 h1
  simp at q0 q1
  exact ⟨a, b, q0, q1, by simpa [I64, Lit.wf, IntKind.min, IntKind.max, IntKind.signed, IntKind.bits] using w0, by simpa [I64, Lit.wf, IntKind.min, IntKind.max, IntKind.signed, IntKind.bits] using w1⟩
theorem op_trod {fuel : Nat} {c0 c1 c2 c3 : Value} {x : DataW H × List MemPlace} (h : DataW.trod enc Tryd.prog W base sp held fuel 32 [c0, c1, c2, c3] = some x) :
    ∃ (kd n af ac : Int), c0 = .int .i64 kd ∧ c1 = .int .i64 n ∧ c2 = .int .i64 af ∧ c3 = .int .i64 ac ∧ I64 kd ∧ I64 n ∧ I64 af ∧ I64 ac := by
  obtain ⟨xs, m, _, _, _, hlen, hf⟩ := DataW.trod_struct Tryd.underlying32 h
  obtain ⟨x0, e0⟩ := some_of_len hlen (i := 0) (by decide)
  obtain ⟨x1, e1⟩ := some_of_len hlen (i := 1) (by decide)
  obtain ⟨x2, e2⟩ := some_of_len hlen (i := 2) (by decide)
  have h0 : DataW.trod enc Tryd.prog W base sp held m 3 (List.take (Tryd.prog.cellsOf 3) (List.drop 0 [c0, c1, c2, c3])) = some x0 := (hf 0 _ rfl).trans e0
  have h1 : DataW.trod enc Tryd.prog W base sp held m 3 (List.take (Tryd.prog.cellsOf 3) (List.drop 1 [c0, c1, c2, c3])) = some x1 := (hf 1 _ rfl).trans e1
  have h2 : DataW.trod enc Tryd.prog W base sp held m 30 (List.take (Tryd.prog.cellsOf 30) (List.drop 2 [c0, c1, c2, c3])) = some x2 := (hf 2 _ rfl).trans e2
  clear hf e0 h
  rw [cellsI] at h0 h1
  rw [cellsAr] at h2
  obtain ⟨a, q0, _, w0⟩ := DataW.trod_int Tryd.underlying3 h0
  obtain ⟨b, q1, _, w1⟩ := DataW.trod_int Tryd.underlying3 h1
  obtain ⟨c, d, q2, q3, w2, w3⟩ := area_trod (show DataW.trod enc Tryd.prog W base sp held m 30 [c2, c3] = some x2 from h2)
  simp at q0 q1
  exact ⟨a, b, c, d, q0, q1, q2, q3, by simpa [I64, Lit.wf, IntKind.min, IntKind.max, IntKind.signed, IntKind.bits] using w0, by simpa [I64, Lit.wf, IntKind.min, IntKind.max, IntKind.signed, IntKind.bits] using w1, w2, w3⟩
set_option maxRecDepth 100000 in
theorem op_open {r : Reach} {b0 : Nat} {v : Value} {d : DataW H} {p : List MemPlace} (hv : Value.okWide Tryd.prog W r b0 32 v) (h : DataW.Trod enc Tryd.prog W base sp held 32 v d p) :
    ∃ (kd n af ac : Int), v = .agg #[.int .i64 kd, .int .i64 n, .int .i64 af, .int .i64 ac] ∧ I64 kd ∧ I64 n ∧ I64 af ∧ I64 ac := by
  obtain ⟨cs, rfl, hsz⟩ := okWide_struct Tryd.underlying32 hv
  obtain ⟨c0, c1, c2, c3, rfl⟩ := arr4 (hsz.trans cellsOp)
  obtain ⟨fuel, hf⟩ := h
  obtain ⟨a, b, c, d, rfl, rfl, rfl, rfl, w0, w1, w2, w3⟩ := op_trod hf
  exact ⟨a, b, c, d, rfl, w0, w1, w2, w3⟩
end
end Go.Proofs.YtbmbdidmbdanmaaDoor
