/- Steps among a law's arguments, opened. -/
import Derived.Test.YtiffkcffcjembaaPTab
import Derived.Test.YtiffkcffcjembaaH17
import Derived.Deep.Slices
import Derived.Carry
namespace Go.Proofs.Ytiffkcffcjembaa
open Go.ChangeShapes Go.WideShapes Go.ChangeAt Go.RowKit Go.Joins Go.ChangeMaps
set_option linter.unusedVariables false
set_option linter.unusedSimpArgs false
/-- A step. -/
structure Op3 where
  kind : Int
  N : Int
  fl : Int
instance : Inhabited Op3 := ⟨⟨0, 0, 0⟩⟩
structure Op3.ok (p : Op3) : Prop where
  kind : I64 p.kind
  N : I64 p.N
  fl : I64 p.fl
/-- The steps that a slice at a holds. -/
def HOps (w : World) (a : Option Addr) (n : Nat) (f : Nat → Op3) : Prop :=
  0 < n → ∃ b off, a = some ⟨b, off, none⟩ ∧ ∀ i, i < n → (f i).ok ∧ w.cell? ⟨b, off + i * 3, none⟩ = some (.int .i64 (f i).kind) ∧ w.cell? ⟨b, off + i * 3 + 1, none⟩ = some (.int .i64 (f i).N) ∧ w.cell? ⟨b, off + i * 3 + 2, none⟩ = some (.int .i64 (f i).fl)
theorem bytesOp : Try.prog.bytesOf 31 = 24 := by kernel_rfl
theorem cellsOp : Try.prog.cellsOf 31 = 3 := by kernel_rfl
theorem cellsI : Try.prog.cellsOf 3 = 1 := by kernel_rfl
theorem some_of_len {α : Type} {l : List α} {n : Nat} (h : l.length = n) {i : Nat} (hi : i < n) : ∃ x, l[i]? = some x := ⟨_, List.getElem?_eq_getElem (by omega)⟩
theorem i64_wf {z : Int} (h : (Lit.int .i64 z).wf = true) : I64 z := by
  simpa [I64, Lit.wf, IntKind.min, IntKind.max, IntKind.signed, IntKind.bits] using h
set_option maxRecDepth 100000 in
theorem op_trod {H : Type} {enc : TypeId × Value → H} {W : World} {base : Nat} {sp : Nat → Bool} {held : Bool} {fuel : Nat} {c0 c1 c2 : Value} {x : DataW H × List MemPlace} (h : DataW.trod enc Try.prog W base sp held fuel 31 [c0, c1, c2] = some x) :
    ∃ (kd n fl : Int), c0 = .int .i64 kd ∧ c1 = .int .i64 n ∧ c2 = .int .i64 fl ∧ I64 kd ∧ I64 n ∧ I64 fl := by
  obtain ⟨xs, m, _, _, _, hlen, hf⟩ := DataW.trod_struct Try.underlying31 h
  obtain ⟨x0, e0⟩ := some_of_len hlen (i := 0) (by decide)
  obtain ⟨x1, e1⟩ := some_of_len hlen (i := 1) (by decide)
  obtain ⟨x2, e2⟩ := some_of_len hlen (i := 2) (by decide)
  have h0 : DataW.trod enc Try.prog W base sp held m 3 (List.take (Try.prog.cellsOf 3) (List.drop 0 [c0, c1, c2])) = some x0 := (hf 0 _ rfl).trans e0
  have h1 : DataW.trod enc Try.prog W base sp held m 3 (List.take (Try.prog.cellsOf 3) (List.drop 1 [c0, c1, c2])) = some x1 := (hf 1 _ rfl).trans e1
  have h2 : DataW.trod enc Try.prog W base sp held m 3 (List.take (Try.prog.cellsOf 3) (List.drop 2 [c0, c1, c2])) = some x2 := (hf 2 _ rfl).trans e2
  clear hf e0 h
  rw [cellsI] at h0 h1 h2
  obtain ⟨a, q0, _, w0⟩ := DataW.trod_int Try.underlying3 h0
  obtain ⟨b, q1, _, w1⟩ := DataW.trod_int Try.underlying3 h1
  obtain ⟨c, q2, _, w2⟩ := DataW.trod_int Try.underlying3 h2
  simp at q0 q1 q2
  exact ⟨a, b, c, q0, q1, q2, i64_wf w0, i64_wf w1, i64_wf w2⟩
theorem add_plain (b o j : Nat) : (⟨b, o, none⟩ : Addr).add j = ⟨b, o + j, none⟩ := Addr.add_mid b o j
set_option maxRecDepth 100000 in
theorem ops_trod {H : Type} {enc : TypeId × Value → H} {W : World} {fuel : Nat} {c0 : Value} {x : DataW H × List MemPlace} (hf : DataW.trod enc Try.prog W 0 (fun _ => true) true fuel 22 [c0] = some x) :
    ∃ (a : Option Addr) (n c : Nat) (f : Nat → Op3), c0 = .slice a n c ∧ HOps W a n f ∧ n ≤ c ∧ ∀ b, (∀ q ∈ DataW.weights Try.prog 22 x.1, q ≤ b) → n * 24 ≤ b := by
  rcases DataW.trod_slice Try.underlying22 hf with ⟨hcs, hx⟩ | ⟨a, len, cap, elems, rest, n, _, hcs, hx, _, hl, hm, he, hel, _, _⟩
  · have hc : c0 = .slice none 0 0 := by simpa using hcs
    exact ⟨none, 0, 0, fun _ => ⟨0, 0, 0⟩, hc, fun h => by omega, Nat.le_refl _, fun b _ => by omega⟩
  · have hc : c0 = .slice (some a) len cap := by simpa using hcs
    rw [cellsOp] at hel
    have key : ∀ i, i < len → ∃ q : Op3, q.ok ∧ W.cell? (a.add (i * 3)) = some (.int .i64 q.kind) ∧ W.cell? ((a.add (i * 3)).add 1) = some (.int .i64 q.N) ∧ W.cell? ((a.add (i * 3)).add 2) = some (.int .i64 q.fl) := by
      intro i hi
      have h1 := hel i hi
      have h2 : elems[i]? = some elems[i] := List.getElem?_eq_getElem (by omega)
      rw [h2] at h1
      obtain ⟨cs, hc', ht⟩ := Option.bind_eq_some_iff.1 h1
      obtain ⟨_, hcl, hcc⟩ := World.cells?_some hc'
      match cs, hcl with
      | [c0, c1, c2], _ =>
        obtain ⟨kd, m, fl, rfl, rfl, rfl, w0, w1, w2⟩ := op_trod ht
        have z0 := hcc 0 (by decide)
        exact ⟨⟨kd, m, fl⟩, ⟨w0, w1, w2⟩, by simpa [Addr.add] using z0, hcc 1 (by decide), hcc 2 (by decide)⟩
    obtain ⟨f, hfk⟩ := Go.Deep.choose_lt key
    refine ⟨some a, len, cap, f, hc, fun hpos => ?_, hl, fun b hb => ?_⟩
    · obtain ⟨b, off, spot⟩ := a
      have hspot : spot = none := by
        obtain ⟨_, h0, _⟩ := hfk 0 hpos
        simpa [Addr.add] using World.cell?_spot h0
      subst hspot
      refine ⟨b, off, rfl, fun i hi => ?_⟩
      obtain ⟨hS, h0, h1, h2⟩ := hfk i hi
      rw [add_plain] at h0 h1 h2
      rw [add_plain] at h1 h2
      exact ⟨hS, h0, h1, h2⟩
    · have hx1 : x.1 = .slice (elems.map (·.1)) (rest.map (·.1)) := congrArg Prod.fst hx
      have := hb ((elems.length + rest.length) * 24) (by
        rw [hx1]
        simp only [DataW.weights, Try.underlying22, bytesOp, List.length_map]
        exact List.mem_cons_self ..)
      have : len * 24 ≤ (elems.length + rest.length) * 24 := Nat.mul_le_mul_right _ (by omega)
      omega
set_option maxRecDepth 100000 in
theorem hops_open {H : Type} {enc : TypeId × Value → H} {W : World} {base : Nat} {v : Value} {d : DataW H} {p : List MemPlace} (hv : Value.okWide Try.prog W .any base 22 v) (h : DataW.Trod enc Try.prog W 0 (fun _ => true) true 22 v d p)
    (ts : List TypeId) (ds : List (DataW H)) (j : Nat) (hall : (DataW.weightsEach Try.prog ts ds).all (· ≤ reachBytes) = true) (hts : ts[j]? = some 22) (hds : ds[j]? = some d) :
    ∃ (a : Option Addr) (n c : Nat) (f : Nat → Op3), v = .slice a n c ∧ HOps W a n f ∧ n * 24 ≤ 140737488351232 := by
  obtain ⟨a1, len1, cap1, rfl⟩ := Go.WideShapes.okWide_slice Try.underlying22 hv
  obtain ⟨fuel, hf⟩ := h
  obtain ⟨a, n, c, f, he, ho, _, hb⟩ := ops_trod (c0 := .slice a1 len1 cap1) hf
  refine ⟨a, n, c, f, he, ho, ?_⟩
  have := hb reachBytes (fun q h => by
    have := List.all_eq_true.1 hall q (DataW.weights_mem_each hts hds q h)
    simpa using this)
  unfold reachBytes at this
  exact this
end Go.Proofs.Ytiffkcffcjembaa
