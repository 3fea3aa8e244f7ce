/- A slice of deduplaw10's steps among a law's arguments: opened. -/
import Derived.Test.YtelngbkbdihdnaaQS
namespace Go.Proofs.Ytelngbkbdihdnaa
open Go.ChangeShapes Go.WideShapes Go.ChangeAt Go.RowKit Go.Joins Go.ChangeMaps
set_option linter.unusedVariables false
/-- A step. -/
structure Op10 where
  kind : Int
  key : ByteArray
  to : ByteArray
  N : Int
instance : Inhabited Op10 := ⟨⟨0, ByteArray.empty, ByteArray.empty, 0⟩⟩
def SOps (w : World) (v : Value) (n : Nat) (f : Nat → Op10) : Prop :=
  ∃ a cap, v = .slice a n cap ∧ (0 < n → ∃ b off, a = some ⟨b, off, none⟩ ∧ ∀ i, i < n → w.cell? ⟨b, off + i * 4, none⟩ = some (.int .i64 (f i).kind) ∧ w.cell? ⟨b, off + i * 4 + 1, none⟩ = some (.string (f i).key) ∧ w.cell? ⟨b, off + i * 4 + 2, none⟩ = some (.string (f i).to) ∧ w.cell? ⟨b, off + i * 4 + 3, none⟩ = some (.int .i64 (f i).N))
theorem cellsOp10 : Try.prog.cellsOf 44 = 4 := by kernel_rfl
theorem bytesOp10 : Try.prog.bytesOf 44 = 48 := by kernel_rfl
theorem sadd_plain (b off j : Nat) : (⟨b, off, none⟩ : Addr).add j = ⟨b, off + j, none⟩ := by simp [Addr.add]
theorem sop_trod {H : Type} {enc : TypeId × Value → H} {W : World} {held : Bool} {fuel : Nat} {c0 c1 c2 c3 : Value} {x : DataW H × List MemPlace} (h : DataW.trod enc Try.prog W 0 (fun _ => true) held fuel 44 [c0, c1, c2, c3] = some x) :
    ∃ p : Op10, c0 = .int .i64 p.kind ∧ c1 = .string p.key ∧ c2 = .string p.to ∧ c3 = .int .i64 p.N := by
  obtain ⟨xs, n, _, hx, _, hlen, hf⟩ := DataW.trod_struct Try.underlying44 h
  have hl : xs.length = 4 := hlen
  match xs, hl with
  | [x0, x1, x2, x3], _ =>
    have h0 : DataW.trod enc Try.prog W 0 (fun _ => true) held n 3 (List.take (Try.prog.cellsOf 3) (List.drop 0 [c0, c1, c2, c3])) = some x0 := hf 0 _ rfl
    have h1 : DataW.trod enc Try.prog W 0 (fun _ => true) held n 9 (List.take (Try.prog.cellsOf 9) (List.drop 1 [c0, c1, c2, c3])) = some x1 := hf 1 _ rfl
    have h2 : DataW.trod enc Try.prog W 0 (fun _ => true) held n 9 (List.take (Try.prog.cellsOf 9) (List.drop 2 [c0, c1, c2, c3])) = some x2 := hf 2 _ rfl
    have h3 : DataW.trod enc Try.prog W 0 (fun _ => true) held n 3 (List.take (Try.prog.cellsOf 3) (List.drop 3 [c0, c1, c2, c3])) = some x3 := hf 3 _ rfl
    rw [cellsI1] at h0 h3
    rw [cellsS1] at h1 h2
    obtain ⟨a, q0, _, _⟩ := DataW.trod_int Try.underlying3 h0
    obtain ⟨k, q1, _, _⟩ := DataW.trod_string Try.underlying9 h1
    obtain ⟨s, q2, _, _⟩ := DataW.trod_string Try.underlying9 h2
    obtain ⟨m, q3, _, _⟩ := DataW.trod_int Try.underlying3 h3
    simp at q0 q1 q2 q3
    exact ⟨⟨a, k, s, m⟩, q0, q1, q2, q3⟩
set_option maxRecDepth 100000 in
theorem sops_open {H : Type} {enc : TypeId × Value → H} {W : World} {base : Nat} {v : Value} {d : DataW H} {p : List MemPlace} (hv : Value.okWide Try.prog W .any base 39 v) (h : DataW.Trod enc Try.prog W 0 (fun _ => true) true 39 v d p)
    (ts : List TypeId) (ds : List (DataW H)) (j : Nat) (hall : (DataW.weightsEach Try.prog ts ds).all (· ≤ reachBytes) = true) (hts : ts[j]? = some 39) (hds : ds[j]? = some d) :
    ∃ (n : Nat) (f : Nat → Op10), SOps W v n f ∧ n * 48 ≤ 140737488351232 := by
  obtain ⟨a1, len1, cap1, rfl⟩ := okWide_slice Try.underlying39 hv
  obtain ⟨fuel, hf⟩ := h
  rcases DataW.trod_slice Try.underlying39 hf with ⟨hcs, hx⟩ | ⟨a, len, cap, elems, rest, n, _, hcs, hx, _, hl, hm, he, hel, _, _⟩
  · simp [Value.cells] at hcs
    obtain ⟨rfl, rfl, rfl⟩ := hcs
    exact ⟨0, fun _ => default, ⟨none, 0, rfl, fun h => by omega⟩, by omega⟩
  · simp [Value.cells] at hcs
    obtain ⟨rfl, rfl, rfl⟩ := hcs
    rw [cellsOp10] at hel
    have hd : d = .slice (elems.map (·.1)) (rest.map (·.1)) := congrArg Prod.fst hx
    rw [hd] at hds
    have key : ∀ i, i < len1 → ∃ q : Op10, W.cell? (a.add (i * 4)) = some (.int .i64 q.kind) ∧ W.cell? ((a.add (i * 4)).add 1) = some (.string q.key) ∧ W.cell? ((a.add (i * 4)).add 2) = some (.string q.to) ∧ W.cell? ((a.add (i * 4)).add 3) = some (.int .i64 q.N) := by
      intro i hi
      have h1 := hel i hi
      have h2 : elems[i]? = some elems[i] := List.getElem?_eq_getElem (by omega)
      rw [h2] at h1
      obtain ⟨cs, hc, ht⟩ := Option.bind_eq_some_iff.1 h1
      obtain ⟨_, hcl, hcc⟩ := World.cells?_some hc
      match cs, hcl with
      | [c0, c1, c2, c3], _ =>
        obtain ⟨q, rfl, rfl, rfl, rfl⟩ := sop_trod ht
        have z0 := hcc 0 (by decide)
        exact ⟨q, by simpa [Addr.add] using z0, hcc 1 (by decide), hcc 2 (by decide), hcc 3 (by decide)⟩
    obtain ⟨f, hfk⟩ := Go.Deep.choose_lt key
    refine ⟨len1, f, ⟨some a, cap1, rfl, fun hpos => ?_⟩, ?_⟩
    · obtain ⟨b, off, spot⟩ := a
      have hspot : spot = none := by
        obtain ⟨h0, _⟩ := hfk 0 hpos
        simpa [Addr.add] using World.cell?_spot h0
      subst hspot
      refine ⟨b, off, rfl, fun i hi => ?_⟩
      obtain ⟨h0, h1, h2, h3⟩ := hfk i hi
      rw [sadd_plain] at h0 h1 h2 h3
      rw [sadd_plain] at h1 h2 h3
      exact ⟨h0, h1, h2, h3⟩
    · have := sized_slice hall (j := j) hts hds Try.underlying39
      rw [bytesOp10] at this
      simp only [List.length_map, reachBytes] at this
      omega
end Go.Proofs.Ytelngbkbdihdnaa
