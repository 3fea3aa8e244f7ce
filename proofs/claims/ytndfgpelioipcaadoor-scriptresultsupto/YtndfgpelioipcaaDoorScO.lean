/- script: an operation among a law's arguments, opened (the bounded form). -/
import Derived.Test.YtndfgpelioipcaaDoorScK
import Derived.Test.YtndfgpelioipcaaDoorSc10
namespace Go.Proofs.YtndfgpelioipcaaDoor
open Go.ChangeShapes Go.WideShapes Go.ChangeAt Go.RowKit Go.Joins Go.ChangeMaps
set_option linter.unusedVariables false
theorem arr8 {cs : Array Value} (h : cs.size = 8) : ∃ c0 c1 c2 c3 c4 c5 c6 c7, cs = #[c0, c1, c2, c3, c4, c5, c6, c7] := by
  obtain ⟨l⟩ := cs
  match l, h with
  | [c0, c1, c2, c3, c4, c5, c6, c7], _ => exact ⟨c0, c1, c2, c3, c4, c5, c6, c7, rfl⟩
theorem cellsOp8 : Tryd.prog.cellsOf 28 = 8 := by kernel_rfl
theorem cellsI8 : Tryd.prog.cellsOf 3 = 1 := by kernel_rfl
theorem i64_of {a : Int} (h : (Lit.int .i64 a).wf = true) : I64 a := by simpa [I64, Lit.wf, IntKind.min, IntKind.max, IntKind.signed, IntKind.bits] using h
set_option maxRecDepth 100000 in
theorem op_openU {H : Type} {enc : TypeId × Value → H} {W : World} {base : Nat} {v : Value} {d : DataW H} {p : List MemPlace} (hv : Value.okWide Tryd.prog W .any base 28 v) (h : DataW.Trod enc Tryd.prog W 0 (fun _ => true) true 28 v d p) :
    ∃ o : OpR, v = .agg o.cs ∧ (I64 o.kd ∧ I64 o.ha ∧ I64 o.of ∧ I64 o.nn ∧ I64 o.fl) ∧ o.pa.length + o.ot.length + o.da.length ≤ Rows.uptoBulk d := by
  obtain ⟨cs, rfl, hsz⟩ := okWide_struct Tryd.underlying28 hv
  obtain ⟨c0, c1, c2, c3, c4, c5, c6, c7, rfl⟩ := arr8 (hsz.trans cellsOp8)
  obtain ⟨fuel, hf0⟩ := h
  obtain ⟨xs, n, _, hx, _, hlen, hf⟩ := DataW.trod_struct Tryd.underlying28 hf0
  match xs, hlen with
  | [y0, y1, y2, y3, y4, y5, y6, y7], _ =>
    simp only [Prod.mk.injEq, List.map_cons, List.map_nil] at hx
    obtain ⟨rfl, _⟩ := hx
    have h0 : DataW.trod enc Tryd.prog W 0 (fun _ => true) true n 3 (List.take (Tryd.prog.cellsOf 3) (List.drop 0 [c0, c1, c2, c3, c4, c5, c6, c7])) = some y0 := hf 0 _ rfl
    rw [cellsI8] at h0
    obtain ⟨a0, q0, r0, w0⟩ := DataW.trod_int Tryd.underlying3 h0
    have h1 : DataW.trod enc Tryd.prog W 0 (fun _ => true) true n 9 (List.take (Tryd.prog.cellsOf 9) (List.drop 1 [c0, c1, c2, c3, c4, c5, c6, c7])) = some y1 := hf 1 _ rfl
    rw [cellsS1] at h1
    obtain ⟨a1, q1, r1, w1⟩ := DataW.trod_string Tryd.underlying9 h1
    have h2 : DataW.trod enc Tryd.prog W 0 (fun _ => true) true n 9 (List.take (Tryd.prog.cellsOf 9) (List.drop 2 [c0, c1, c2, c3, c4, c5, c6, c7])) = some y2 := hf 2 _ rfl
    rw [cellsS1] at h2
    obtain ⟨a2, q2, r2, w2⟩ := DataW.trod_string Tryd.underlying9 h2
    have h3 : DataW.trod enc Tryd.prog W 0 (fun _ => true) true n 3 (List.take (Tryd.prog.cellsOf 3) (List.drop 3 [c0, c1, c2, c3, c4, c5, c6, c7])) = some y3 := hf 3 _ rfl
    rw [cellsI8] at h3
    obtain ⟨a3, q3, r3, w3⟩ := DataW.trod_int Tryd.underlying3 h3
    have h4 : DataW.trod enc Tryd.prog W 0 (fun _ => true) true n 3 (List.take (Tryd.prog.cellsOf 3) (List.drop 4 [c0, c1, c2, c3, c4, c5, c6, c7])) = some y4 := hf 4 _ rfl
    rw [cellsI8] at h4
    obtain ⟨a4, q4, r4, w4⟩ := DataW.trod_int Tryd.underlying3 h4
    have h5 : DataW.trod enc Tryd.prog W 0 (fun _ => true) true n 3 (List.take (Tryd.prog.cellsOf 3) (List.drop 5 [c0, c1, c2, c3, c4, c5, c6, c7])) = some y5 := hf 5 _ rfl
    rw [cellsI8] at h5
    obtain ⟨a5, q5, r5, w5⟩ := DataW.trod_int Tryd.underlying3 h5
    have h6 : DataW.trod enc Tryd.prog W 0 (fun _ => true) true n 3 (List.take (Tryd.prog.cellsOf 3) (List.drop 6 [c0, c1, c2, c3, c4, c5, c6, c7])) = some y6 := hf 6 _ rfl
    rw [cellsI8] at h6
    obtain ⟨a6, q6, r6, w6⟩ := DataW.trod_int Tryd.underlying3 h6
    have h7 : DataW.trod enc Tryd.prog W 0 (fun _ => true) true n 9 (List.take (Tryd.prog.cellsOf 9) (List.drop 7 [c0, c1, c2, c3, c4, c5, c6, c7])) = some y7 := hf 7 _ rfl
    rw [cellsS1] at h7
    obtain ⟨a7, q7, r7, w7⟩ := DataW.trod_string Tryd.underlying9 h7
    simp at q0 q1 q2 q3 q4 q5 q6 q7
    subst q0 q1 q2 q3 q4 q5 q6 q7
    refine ⟨⟨a0, a1.data.toList, a2.data.toList, a3, a4, a5, a6, a7.data.toList⟩, by unfold OpR.cs; simp only [BA_of], ⟨i64_of w0, i64_of w3, i64_of w4, i64_of w5, i64_of w6⟩, ?_⟩
    simp only [r0, r1, r2, r3, r4, r5, r6, r7, Rows.uptoBulk, Rows.uptoBulkAll]
    omega
end Go.Proofs.YtndfgpelioipcaaDoor
