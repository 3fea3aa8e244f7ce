/- A slice of the document's items among a law's arguments: opened. -/
import Derived.Test.YtelngbkbdihdnaaSOp
import Derived.Test.YtelngbkbdihdnaaItm
namespace Go.Proofs.Ytelngbkbdihdnaa
open Go.ChangeShapes Go.WideShapes Go.ChangeAt Go.RowKit Go.Joins Go.ChangeMaps
set_option linter.unusedVariables false
theorem cellsItem : Try.prog.cellsOf 70 = 2 := by kernel_rfl
theorem bytesItem : Try.prog.bytesOf 70 = 24 := by kernel_rfl
theorem item_trod {H : Type} {enc : TypeId × Value → H} {W : World} {held : Bool} {fuel : Nat} {c0 c1 : Value} {x : DataW H × List MemPlace} (h : DataW.trod enc Try.prog W 0 (fun _ => true) held fuel 70 [c0, c1] = some x) :
    ∃ p : Kv, c0 = .string p.1 ∧ c1 = .int .i64 p.2 := by
  obtain ⟨xs, n, _, hx, _, hlen, hf⟩ := DataW.trod_struct Try.underlying70 h
  have hl : xs.length = 2 := hlen
  match xs, hl with
  | [x0, x1], _ =>
    have h0 : DataW.trod enc Try.prog W 0 (fun _ => true) held n 9 (List.take (Try.prog.cellsOf 9) (List.drop 0 [c0, c1])) = some x0 := hf 0 _ rfl
    have h1 : DataW.trod enc Try.prog W 0 (fun _ => true) held n 3 (List.take (Try.prog.cellsOf 3) (List.drop 1 [c0, c1])) = some x1 := hf 1 _ rfl
    rw [cellsS1] at h0
    rw [cellsI1] at h1
    obtain ⟨k, q0, _, _⟩ := DataW.trod_string Try.underlying9 h0
    obtain ⟨a, q1, _, _⟩ := DataW.trod_int Try.underlying3 h1
    simp at q0 q1
    exact ⟨(k, a), q0, q1⟩
set_option maxRecDepth 100000 in
theorem its_open {H : Type} {enc : TypeId × Value → H} {W : World} {base : Nat} {v : Value} {d : DataW H} {p : List MemPlace} (hv : Value.okWide Try.prog W .any base 42 v) (h : DataW.Trod enc Try.prog W 0 (fun _ => true) true 42 v d p)
    (ts : List TypeId) (ds : List (DataW H)) (j : Nat) (hall : (DataW.weightsEach Try.prog ts ds).all (· ≤ reachBytes) = true) (hts : ts[j]? = some 42) (hds : ds[j]? = some d) :
    ∃ l : List Kv, Its W v l ∧ l.length * 24 ≤ 140737488351232 := by
  obtain ⟨a1, len1, cap1, rfl⟩ := okWide_slice Try.underlying42 hv
  obtain ⟨fuel, hf⟩ := h
  rcases DataW.trod_slice Try.underlying42 hf with ⟨hcs, hx⟩ | ⟨a, len, cap, elems, rest, n, _, hcs, hx, _, hl, hm, he, hel, _, _⟩
  · simp [Value.cells] at hcs
    obtain ⟨rfl, rfl, rfl⟩ := hcs
    exact ⟨[], ⟨none, 0, rfl, fun h => by simp at h⟩, by simp⟩
  · simp [Value.cells] at hcs
    obtain ⟨rfl, rfl, rfl⟩ := hcs
    rw [cellsItem] at hel
    have hd : d = .slice (elems.map (·.1)) (rest.map (·.1)) := congrArg Prod.fst hx
    rw [hd] at hds
    have key : ∀ i, i < len1 → ∃ q : Kv, W.cell? (a.add (i * 2)) = some (.string q.1) ∧ W.cell? ((a.add (i * 2)).add 1) = some (.int .i64 q.2) := by
      intro i hi
      have h1 := hel i hi
      have h2 : elems[i]? = some elems[i] := List.getElem?_eq_getElem (by omega)
      rw [h2] at h1
      obtain ⟨cs, hc, ht⟩ := Option.bind_eq_some_iff.1 h1
      obtain ⟨_, hcl, hcc⟩ := World.cells?_some hc
      match cs, hcl with
      | [c0, c1], _ =>
        obtain ⟨q, rfl, rfl⟩ := item_trod ht
        have z0 := hcc 0 (by decide)
        exact ⟨q, by simpa [Addr.add] using z0, hcc 1 (by decide)⟩
    obtain ⟨f, hfk⟩ := Go.Deep.choose_lt (α := Kv) key
    have hll : ((List.range len1).map f).length = len1 := by simp
    refine ⟨(List.range len1).map f, ⟨some a, cap1, by rw [hll], fun hpos => ?_⟩, ?_⟩
    · rw [hll] at hpos
      obtain ⟨b, off, spot⟩ := a
      have hspot : spot = none := by
        obtain ⟨h0, _⟩ := hfk 0 hpos
        simpa [Addr.add] using World.cell?_spot h0
      subst hspot
      refine ⟨b, off, rfl, fun i hi => ?_⟩
      rw [hll] at hi
      obtain ⟨h0, h1⟩ := hfk i hi
      rw [sadd_plain] at h0 h1
      rw [sadd_plain] at h1
      simpa using ⟨h0, h1⟩
    · have := sized_slice hall (j := j) hts hds Try.underlying42
      rw [bytesItem] at this
      simp only [List.length_map, reachBytes] at this
      rw [hll]
      omega
end Go.Proofs.Ytelngbkbdihdnaa
