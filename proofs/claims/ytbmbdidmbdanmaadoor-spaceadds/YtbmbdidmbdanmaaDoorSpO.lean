/- A Script (a space, and calls), and steps, among a law's arguments, opened. -/
import Derived.Test.YtbmbdidmbdanmaaDoorSpK
import Derived.Deep.Slices
import Derived.Carry
namespace Go.Proofs.YtbmbdidmbdanmaaDoor
open Go.ChangeShapes Go.WideShapes Go.ChangeAt Go.RowKit Go.Joins Go.ChangeMaps
set_option linter.unusedVariables false
set_option linter.unusedSimpArgs false
/-- A step. -/
structure Op4 where
  kind : Int
  N : Int
  af : Int
  ac : Int
instance : Inhabited Op4 := ⟨⟨0, 0, 0, 0⟩⟩
structure Op4.ok (p : Op4) : Prop where
  kind : I64 p.kind
  N : I64 p.N
  af : I64 p.af
  ac : I64 p.ac
/-- The steps that a slice at a holds. -/
def SOps (w : World) (a : Option Addr) (n : Nat) (f : Nat → Op4) : Prop :=
  0 < n → ∃ b off, a = some ⟨b, off, none⟩ ∧ ∀ i, i < n → (f i).ok ∧ w.cell? ⟨b, off + i * 4, none⟩ = some (.int .i64 (f i).kind) ∧ w.cell? ⟨b, off + i * 4 + 1, none⟩ = some (.int .i64 (f i).N) ∧ w.cell? ⟨b, off + i * 4 + 2, none⟩ = some (.int .i64 (f i).af) ∧ w.cell? ⟨b, off + i * 4 + 3, none⟩ = some (.int .i64 (f i).ac)
theorem bytesOp : Tryd.prog.bytesOf 32 = 32 := by kernel_rfl
theorem add_plain (b o j : Nat) : (⟨b, o, none⟩ : Addr).add j = ⟨b, o + j, none⟩ := Addr.add_mid b o j
set_option maxRecDepth 100000 in
theorem ops_trod {H : Type} {enc : TypeId × Value → H} {W : World} {fuel : Nat} {c0 : Value} {x : DataW H × List MemPlace} (hf : DataW.trod enc Tryd.prog W 0 (fun _ => true) true fuel 22 [c0] = some x) :
    ∃ (a : Option Addr) (n c : Nat) (f : Nat → Op4), c0 = .slice a n c ∧ SOps W a n f ∧ n ≤ c ∧ ∀ b, (∀ q ∈ DataW.weights Tryd.prog 22 x.1, q ≤ b) → n * 32 ≤ b := by
  rcases DataW.trod_slice Tryd.underlying22 hf with ⟨hcs, hx⟩ | ⟨a, len, cap, elems, rest, n, _, hcs, hx, _, hl, hm, he, hel, _, _⟩
  · have hc : c0 = .slice none 0 0 := by simpa using hcs
    exact ⟨none, 0, 0, fun _ => ⟨0, 0, 0, 0⟩, hc, fun h => by omega, Nat.le_refl _, fun b _ => by omega⟩
  · have hc : c0 = .slice (some a) len cap := by simpa using hcs
    rw [cellsOp] at hel
    have key : ∀ i, i < len → ∃ q : Op4, q.ok ∧ W.cell? (a.add (i * 4)) = some (.int .i64 q.kind) ∧ W.cell? ((a.add (i * 4)).add 1) = some (.int .i64 q.N) ∧ W.cell? ((a.add (i * 4)).add 2) = some (.int .i64 q.af) ∧ W.cell? ((a.add (i * 4)).add 3) = some (.int .i64 q.ac) := by
      intro i hi
      have h1 := hel i hi
      have h2 : elems[i]? = some elems[i] := List.getElem?_eq_getElem (by omega)
      rw [h2] at h1
      obtain ⟨cs, hc', ht⟩ := Option.bind_eq_some_iff.1 h1
      obtain ⟨_, hcl, hcc⟩ := World.cells?_some hc'
      match cs, hcl with
      | [c0, c1, c2, c3], _ =>
        obtain ⟨kd, m, af, ac, rfl, rfl, rfl, rfl, w0, w1, w2, w3⟩ := op_trod ht
        have z0 := hcc 0 (by decide)
        exact ⟨⟨kd, m, af, ac⟩, ⟨w0, w1, w2, w3⟩, by simpa [Addr.add] using z0, hcc 1 (by decide), hcc 2 (by decide), hcc 3 (by decide)⟩
    obtain ⟨f, hfk⟩ := Go.Deep.choose_lt key
    refine ⟨some a, len, cap, f, hc, fun hpos => ?_, hl, fun b hb => ?_⟩
    · obtain ⟨b, off, spot⟩ := a
      have hspot : spot = none := by
        obtain ⟨_, h0, _⟩ := hfk 0 hpos
        simpa [Addr.add] using World.cell?_spot h0
      subst hspot
      refine ⟨b, off, rfl, fun i hi => ?_⟩
      obtain ⟨hS, h0, h1, h2, h3⟩ := hfk i hi
      rw [add_plain] at h0 h1 h2 h3
      rw [add_plain] at h1 h2 h3
      exact ⟨hS, h0, h1, h2, h3⟩
    · have hx1 : x.1 = .slice (elems.map (·.1)) (rest.map (·.1)) := congrArg Prod.fst hx
      have := hb ((elems.length + rest.length) * 32) (by
        rw [hx1]
        simp only [DataW.weights, Tryd.underlying22, bytesOp, List.length_map]
        exact List.mem_cons_self ..)
      have : len * 32 ≤ (elems.length + rest.length) * 32 := Nat.mul_le_mul_right _ (by omega)
      omega
set_option maxRecDepth 100000 in
theorem script_open {H : Type} {enc : TypeId × Value → H} {W : World} {base : Nat} {v : Value} {d : DataW H} {p : List MemPlace} (hv : Value.okWide Tryd.prog W .any base 24 v) (h : DataW.Trod enc Tryd.prog W 0 (fun _ => true) true 24 v d p)
    (ts : List TypeId) (ds : List (DataW H)) (j : Nat) (hall : (DataW.weightsEach Tryd.prog ts ds).all (· ≤ reachBytes) = true) (hts : ts[j]? = some 24) (hds : ds[j]? = some d) :
    ∃ (first count : Int) (a : Option Addr) (n c : Nat) (f : Nat → Op4), v = .agg #[.int .i64 first, .int .i64 count, .slice a n c] ∧ I64 first ∧ I64 count ∧ SOps W a n f ∧ n * 32 ≤ 140737488351232 := by
  obtain ⟨v0, v1, v2, y0, y1, y2, fu, rfl, rfl, hp, t0, t1, t2⟩ := open_agg3 Tryd.underlying24 (by kernel_rfl) (by kernel_rfl) hv h
  obtain ⟨a0, q0, _, w0⟩ := DataW.trod_int Tryd.underlying3 t0
  obtain ⟨a1, q1, _, w1⟩ := DataW.trod_int Tryd.underlying3 t1
  obtain ⟨a, n, c, f, rfl, ho, _, hb⟩ := ops_trod t2
  simp at q0 q1
  subst q0 q1
  refine ⟨a0, a1, a, n, c, f, rfl, by simpa [I64, Lit.wf, IntKind.min, IntKind.max, IntKind.signed, IntKind.bits] using w0, by simpa [I64, Lit.wf, IntKind.min, IntKind.max, IntKind.signed, IntKind.bits] using w1, ho, ?_⟩
  have := hb reachBytes (fun q h => by
    have hq : q ∈ DataW.weights Tryd.prog 24 (.agg [y0.1, y1.1, y2.1]) := by simp [DataW.weights, DataW.weightsEach, Tryd.underlying24, h]
    have := List.all_eq_true.1 hall q (DataW.weights_mem_each hts hds q hq)
    simpa using this)
  unfold reachBytes at this
  exact this
end Go.Proofs.YtbmbdidmbdanmaaDoor
